/-
  The kit's calls on lists of numbers: compared, written over.
  The reference's views: a word told; who is live, who is alive.
-/
import Derived.Test.YtocfcfoocmkkdaaQ6
import Derived.Test.YtocfcfoocmkkdaaRows
import Derived.Test.YtocfcfoocmkkdaaQ1
import Derived.WalkSpells
import Derived.IntWalk
import Derived.WalkLawsBesides
namespace Go.Proofs.Ytocfcfoocmkkdaa
section
set_option linter.unusedSimpArgs false
set_option linter.unusedVariables false
open Go.RowKit Sha
abbrev v64 (n : Int) : Value := .int .i64 n
theorem knum_info : (Try.prog.info? 3).map (fun i => (i.zero, i.size, i.bytes)) = some (some (.int .i64 0), 1, 8) := by kernel_rfl
theorem knum1 : (Try.prog.info? 3).map (fun i => i.size) = some 1 := by kernel_rfl
theorem kone64 (l : List Int) : ∀ u ∈ l.map v64, u.oneCell' = true := by simp [Value.oneCell']
/-- Numbers in memory. -/
structure GoodN (w : World) (xs : List Int) (p : Option Addr) (cap : Nat) : Prop where
  nums : ∀ n ∈ xs, -9223372036854775808 ≤ n ∧ n ≤ 9223372036854775807
  at_ : At w p (xs.map v64)
  le : xs.length ≤ cap
  max : cap ≤ 9223372036854775807
  nil : p = none → cap = 0
theorem GoodN.below {w w' : World} {xs : List Int} {p : Option Addr} {cap : Nat} (h : GoodN w xs p cap) (hb : Below w.heap.size w w') : GoodN w' xs p cap := ⟨h.nums, h.at_.below hb, h.le, h.max, h.nil⟩
theorem GoodN.carry {w w' : World} {xs : List Int} {p : Option Addr} {cap : Nat} (h : GoodN w xs p cap) (hc : ∀ p v, w.cell? p = some v → w'.cell? p = some v) : GoodN w' xs p cap := ⟨h.nums, h.at_.carry hc, h.le, h.max, h.nil⟩
theorem Own64.good {w : World} {B n : Nat} {e : TypeId} {v : Value} {xs : List Int} (h : Own64 w B e v n (xs.map v64)) (hb : ∀ n ∈ xs, -9223372036854775808 ≤ n ∧ n ≤ 9223372036854775807) : ∃ p cap, v = .slice p n cap ∧ xs.length = n ∧ GoodN w xs p cap := by
  obtain ⟨p, cap, hv, hl, hm, hA, hx, hn⟩ := own_at h.row
  rw [List.length_map] at hx
  exact ⟨p, cap, hv, hx, hb, hA, by rw [hx]; exact hl, by unfold maxLen at hm; omega, hn⟩
/-- A cut, where it is told besides that no address means no room. -/
theorem wpList_cut_nil {P : Program} {ops : Array Oper} {rest : List Oper} {o : Oper} {a : Act} {w : World} {Q : Exit → Act → World → Prop} (hgd : o.guard = none) (t : TypeId) (x : Operand) (lo hi : Option Operand) (ho : o.op = .slice t x lo hi none) (p : Option Addr) (l h cap : Nat)
    (hr : ∀ w, (Instr.sliceAt t (a.eval x) (lo.map a.eval) (hi.map a.eval) none).run P w = .ok (cutV p l h cap) w) (cs : List Value) (hA : At w p cs) (hc : cs.length ≤ cap) (hp : p = none → cap = 0)
    (hn : ∀ p', At w p' ((cs.take h).drop l) → (p' = none → cap - l = 0) → wpList P ops Q rest (a.put o.dst (.slice p' (h - l) (cap - l))) w) : wpList P ops Q (o :: rest) a w := by
  refine wpList_plain hgd fun K hK => ?_
  unfold Oper.wp execOp
  simp only [ho, Option.map_none, Sem.run_bind, hr, Result.andThen_ok, Sem.run_pure]
  refine hK _ _ (hn _ (hA.sub l h cap hc) fun e => ?_)
  split at e
  · omega
  · cases p with
    | none => have := hp rfl; omega
    | some a => cases e
def NumsDone (w0 : World) (xs : List Int) (w : World) (e : Ending) (w' : World) : Prop := ∃ v, e = .returned v ∧ Own64 w' w0.heap.size 3 v xs.length (xs.map v64) ∧ Below w0.heap.size w w'
theorem ntake_succ {xs ys : List Int} {k : Nat} (hx : k < xs.length) (hy : k < ys.length) (h : xs.take k = ys.take k) : (xs.take (k + 1) = ys.take (k + 1)) ↔ xs[k] = ys[k] := by
  rw [List.take_succ_eq_append_getElem hx, List.take_succ_eq_append_getElem hy, h]
  exact ⟨fun e => by have := List.append_cancel_left e; simpa using this, fun e => by rw [e]⟩
def SameDone (b : Bool) (w : World) (e : Ending) (w' : World) : Prop := e = .returned (.bool b) ∧ ∃ m, w' = w.drewN m
set_option maxRecDepth 100000 in
set_option maxHeartbeats 1000000 in
theorem sameN_any (xs ys : List Int) (n m : Nat) (p q : Option Addr) (c d : Nat) (w : World) (hn : xs.length = n) (hm : ys.length = m) (hx : GoodN w xs p c) (hy : GoodN w ys q d) :
    Calls Try.prog 17 #[.slice p n c, .slice q m d] w (SameDone (decide (xs = ys)) w) := by
  have GX := Lib.hid hx
  have GY := Lib.hid hy
  have HN := Lib.hid hn
  have HM := Lib.hid hm
  have b1 := hx.le
  have b2 := hx.max
  have b3 := hy.le
  have b4 := hy.max
  rw [hn] at b1
  rw [hm] at b3
  clear hx hy
  by_cases hnm : n = m
  · subst hnm
    clear hn hm
    go_enter Try.func17, Try.ntmps17
    go_wp2_with fail
    go_loopw [5, 6] (fun s i wr => ∃ (k j : Nat) (b : Bool), i = .int .i64 k ∧ s = .bool b ∧ k ≤ n ∧ Hid (wr = w.drewN j) ∧ Hid (b = decide (xs.take k = ys.take k)) ∧ Hid (b = false → xs ≠ ys)) (fun s i _ => (match s with | .bool true => 1 | _ => 0) + (n - (intOf i).toNat))
    case atStart => exact ⟨0, 0, true, rfl, rfl, by omega, Lib.hid rfl, Lib.hid (by simp), Lib.hid (fun h => by cases h)⟩
    case round =>
      obtain ⟨k, j, b, rfl, rfl, hk, HW, HB, HF⟩ := hrel
      cases b with
      | false =>
        have HR := Lib.hid (decide_eq_false (HF.out rfl))
        go_wp2_with fail
        go_ret
        exact ⟨by rw [HR.out]; rfl, j, HW.out⟩
      | true =>
        have ht : xs.take k = ys.take k := by have := HB.out; exact of_decide_eq_true this.symm
        by_cases hlt : k < n
        · have hkx : k < xs.length := by rw [HN.out]; exact hlt
          have hky : k < ys.length := by rw [HM.out]; exact hlt
          have HS := Lib.hid (ntake_succ hkx hky ht)
          obtain ⟨bx, ox, rfl, cx⟩ := GX.out.at_.addr (by rw [List.length_map]; omega)
          obtain ⟨by_, oy, rfl, cy⟩ := GY.out.at_.addr (by rw [List.length_map]; omega)
          have c1 : wr.cell? ⟨bx, ox + k, none⟩ = some (v64 xs[k]) := by rw [HW.out]; exact cx k _ (by rw [List.getElem?_map, List.getElem?_eq_getElem hkx]; rfl)
          have c2 : wr.cell? ⟨by_, oy + k, none⟩ = some (v64 ys[k]) := by rw [HW.out]; exact cy k _ (by rw [List.getElem?_map, List.getElem?_eq_getElem hky]; rfl)
          have HNE := Lib.hid (show xs[k] ≠ ys[k] → xs ≠ ys from fun h e => h (by simp [e]))
          generalize xs[k] = x at *
          generalize ys[k] = y at *
          clear ht hkx hky cx cy
          by_cases hxy : x = y
          · have HT := Lib.hid (HS.out.2 hxy)
            have hq : (x == y) = true := by rw [hxy]; exact beq_self_eq_true _
            clear hxy
            go_wp2_with fail
            go_quiet (fail)
            go_wp2_with fail
            go_roundw
            case rel => exact ⟨k + 1, j + nq, true, by go_num, rfl, by omega, Lib.hid (by rw [HW.out, World.drewN_drewN]), Lib.hid (by rw [decide_eq_true HT.out]), Lib.hid (fun h => by cases h)⟩
            case measure => simp [intOf]; omega
          · have HF2 := Lib.hid (HNE.out hxy)
            have HT := Lib.hid (show xs.take (k + 1) ≠ ys.take (k + 1) from fun e => hxy (HS.out.1 e))
            have hq : (x == y) = false := by rw [beq_eq_false_iff_ne]; exact hxy
            clear hxy
            go_wp2_with fail
            go_quiet (fail)
            go_wp2_with fail
            go_roundw
            case rel => exact ⟨k + 1, j + nq, false, by go_num, rfl, by omega, Lib.hid (by rw [HW.out, World.drewN_drewN]), Lib.hid (by rw [decide_eq_false HT.out]), Lib.hid (fun _ => HF2.out)⟩
            case measure => simp [intOf]; omega
        · obtain rfl : k = n := by omega
          have HR : Hid (decide (xs = ys) = true) := by
            refine decide_eq_true ?_
            rwa [List.take_of_length_le (by rw [HN.out]; exact Nat.le_refl _), List.take_of_length_le (by rw [HM.out]; exact Nat.le_refl _)] at ht
          clear ht
          go_wp2_with fail
          go_ret
          exact ⟨by rw [HR.out]; rfl, j, HW.out⟩
  · have hq : ((n : Int) == (m : Int)) = false := by rw [beq_eq_false_iff_ne]; omega
    have HR := Lib.hid (show decide (xs = ys) = false from decide_eq_false fun e => hnm (by rw [← hn, ← hm, e]))
    clear hnm hn hm
    go_enter Try.func17, Try.ntmps17
    go_wp2_with fail
    go_loopw [5, 6] (fun s i wr => s = .bool false ∧ i = .int .i64 0 ∧ w = wr) (fun _ i _ => (intOf i).toNat)
    case atStart => exact ⟨rfl, rfl, rfl⟩
    case round =>
      obtain ⟨rfl, rfl, rfl⟩ := hrel
      go_wp2_with fail
      go_ret
      exact ⟨by rw [HR.out]; rfl, 0, rfl⟩
set_option maxRecDepth 100000 in
set_option maxHeartbeats 600000 in
theorem overN_any (B : Nat) (v : Value) (n : Nat) (xs : List Value) (w : World) (h : Own64 w B 3 v n xs) :
    Calls Try.prog 24 #[v] w fun e w' => e = .returned (.tuple #[]) ∧ Below B w w' ∧ (∀ k, some k ≠ v.ownBlock → w'.heap[k]? = w.heap[k]?) := by
  rcases h.row.2 with ⟨rfl, rfl⟩ | ⟨g, cap, cur, rfl, hg, hh, h1, h2, h3, h4⟩
  · clear h
    go_enter Try.func24, Try.ntmps24
    go_wp2_with fail
    go_loopw [2] (fun i wr => i = .int .i64 0 ∧ w = wr) (fun i _ => (intOf i).toNat)
    case atStart => exact ⟨rfl, rfl⟩
    case round =>
      obtain ⟨rfl, rfl⟩ := hrel
      go_wp2_with fail
      go_end0
      exact ⟨rfl, Below.refl _ _, fun _ _ => rfl⟩
  · have hi := ints64_row h.ints hh
    have hb : Blk w g cur.toList 3 := by unfold Blk; simpa using hh
    have hl : cur.toList.length = cap := by simp [h3]
    have hm : cap ≤ 9223372036854775807 := by unfold maxLen at h2; omega
    have HB := Lib.hid hb
    have HI := Lib.hid hi
    have HL := Lib.hid hl
    clear h hh h3 h4 hi hb hl h2
    go_enter Try.func24, Try.ntmps24
    go_wp2_with fail
    go_loopw [2] (fun i wr => ∃ (k : Nat) (cs : List Value), i = .int .i64 k ∧ k ≤ cap ∧ Hid (Blk wr g cs 3) ∧ Hid (cs.length = cap) ∧ Hid (∀ u ∈ cs, ∃ n, u = Value.int .i64 n) ∧ Hid (Below B w wr) ∧ Hid (∀ k, k ≠ g → wr.heap[k]? = w.heap[k]?)) (fun i _ => cap - (intOf i).toNat)
    case atStart => exact ⟨0, _, rfl, by omega, HB, HL, HI, Below.refl _ _, Lib.hid (fun _ _ => rfl)⟩
    case round =>
      clear HB HI HL
      obtain ⟨k, cs, rfl, hk, HB, HL, HI, HW, HOT⟩ := hrel
      by_cases hlt : k < cap
      · have hkl : k < cs.length := by rw [HL.out]; exact hlt
        obtain ⟨u, hu⟩ := HI.out cs[k] (List.getElem_mem hkl)
        have c0 : wr.cell? ⟨g, k, none⟩ = some (.int .i64 u) := by rw [HB.out.cell, List.getElem?_eq_getElem hkl, hu]
        have f0 : wr.frozen? ⟨g, k, none⟩ = false := HB.out.free k
        clear hu hkl
        go_wp2_with fail
        go_roundw
        case rel =>
          refine ⟨k + 1, cs.set k _, by go_num, by omega, Lib.hid (HB.out.set k _), Lib.hid (by rw [List.length_set]; exact HL.out), Lib.hid fun x hx => ?_, Lib.hid (HW.out.setCell hg _), Lib.hid fun i hi => (Below.heap_setCell _ _ _ _ hi).trans (HOT.out i hi)⟩
          rcases List.mem_or_eq_of_mem_set hx with hx | hx
          · exact HI.out x hx
          · exact ⟨_, hx⟩
        case measure => simp [intOf]; omega
      · obtain rfl : k = cap := by omega
        go_wp2_with fail
        go_end0
        exact ⟨rfl, HW.out, fun i hi => HOT.out i (fun e => hi (by rw [e]; rfl))⟩
/-- A list of the call's own as a block: its numbers, its spare room. -/
theorem own64_blk {w : World} {B n : Nat} {e : TypeId} {v : Value} {xs : List Value} (h : Own64 w B e v n xs) (hn : 0 < n) : ∃ g cap rest, v = .slice (some ⟨g, 0, none⟩) n cap ∧ B ≤ g ∧ n ≤ cap ∧ cap ≤ maxLen ∧ n + rest.length = cap ∧ Blk w g (xs ++ rest) e ∧ ∀ u ∈ xs ++ rest, ∃ m, u = Value.int .i64 m := by
  rcases h.row.2 with ⟨_, h0⟩ | ⟨g, cap, cur, rfl, hg, hh, h1, h2, h3, h4⟩
  · omega
  · refine ⟨g, cap, cur.toList.drop n, rfl, hg, h1, h2, by simp; omega, ?_, ?_⟩
    · rw [Nat.mul_one] at h4
      rw [← h4, List.take_append_drop]
      unfold Blk; simpa using hh
    · rw [Nat.mul_one] at h4
      rw [← h4, List.take_append_drop]
      exact ints64_row h.ints hh
theorem own64_of_blk {w : World} {B n g cap : Nat} {e : TypeId} {xs rest : List Value} (hb : Blk w g (xs ++ rest) e) (hB : B ≤ g) (hx : xs.length = n) (hr : n + rest.length = cap) (hm : cap ≤ maxLen) (hi : ∀ u ∈ xs ++ rest, ∃ m, u = Value.int .i64 m) : Own64 w B e (.slice (some ⟨g, 0, none⟩) n cap) n xs := by
  refine ⟨⟨by omega, .inr ⟨g, cap, (xs ++ rest).toArray, rfl, hB, hb, by omega, hm, by simp; omega, ?_⟩⟩, ints64_block hb (by simpa using hi)⟩
  rw [Nat.mul_one]
  simp [← hx]
theorem Blk.front64 {w : World} {g : Nat} {ys : List Int} {rest : List Value} {t : TypeId} (h : Blk w g (ys.map v64 ++ rest) t) (i : Nat) (hi : i < ys.length) (x : Int) : Blk (w.setCell ⟨g, i, none⟩ (v64 x)) g ((ys.set i x).map v64 ++ rest) t := by
  have h1 := h.set i (v64 x)
  rw [List.set_append_left _ _ (by simpa using hi)] at h1
  rwa [List.map_set]
theorem Blk.get64 {w : World} {g : Nat} {ys : List Int} {rest : List Value} {t : TypeId} (h : Blk w g (ys.map v64 ++ rest) t) (i : Nat) (hi : i < ys.length) : w.cell? ⟨g, i, none⟩ = some (v64 (ys.getD i 0)) := by
  rw [h.cell, List.getElem?_append_left (by simpa using hi), List.getElem?_map, List.getElem?_eq_getElem hi]
  simp [List.getD_eq_getElem?_getD, List.getElem?_eq_getElem hi]
end
section
set_option linter.unusedSimpArgs false
set_option linter.unusedVariables false
open Go.RowKit Sha
theorem own_on_g {w w' : World} {B n size : Nat} {e : TypeId} {v : Value} {xs : List Value} (h : w.ownsRow B e size v n xs) (hb : Below w.heap.size w w') : w'.ownsRow B e size v n xs := by
  refine ⟨h.1, ?_⟩
  have hk := own_base_w h
  rcases h.2 with h | ⟨g, cap, cur, hv, hg, hh, h4⟩
  · exact Or.inl h
  · exact Or.inr ⟨g, cap, cur, hv, hg, by rw [hb.block g (hk g (by rw [hv]; rfl)).2]; exact hh, h4⟩
theorem own64_on {w w' : World} {B n : Nat} {e : TypeId} {v : Value} {xs : List Value} (h : Own64 w B e v n xs) (hb : Below w.heap.size w w') : Own64 w' B e v n xs :=
  ⟨own_on_g h.row hb, h.ints.carry fun g hg => hb.block g (own_base_w h.row g hg).2⟩
def GetDone (z : Mb × Int) (w : World) (e : Ending) (w' : World) : Prop := e = .returned (.tuple #[mv z.1, .int .i64 z.2]) ∧ Below w.heap.size w w'
theorem Vw.get_ok {l : List Mb} (nd : Int) (h : Vw.Ok l) : Vw.get l nd = ((Vw.wordR l nd).1, if (Vw.wordR l nd).2 then 0 else 6) := by
  unfold Vw.get Vw.wordR
  rw [if_pos h]
  cases Vw.word l nd <;> rfl
section
attribute [local go_sem ↓] execOp_loadM execOp_storeM execOp_eqlM execOp_neqM
set_option maxRecDepth 100000 in
set_option maxHeartbeats 4000000 in
theorem rvget_any (l : List Mb) (n : Nat) (q : Option Addr) (c : Nat) (nd : Int) (w : World) (hn : l.length = n) (hl : GoodW w l q c) :
    Calls Try.prog 14 #[.slice q n c, .int .i64 nd] w (GetDone (Vw.get l nd) w) := by
  have HL := Lib.hid hl
  have HN := Lib.hid hn
  have P0 := Lib.hid (put_new w)
  have HB0 := Lib.hid (show Below w.heap.size w (w.alloc (.cells #[.int .i64 0, .int .i64 0, .int .i64 0] mt)) from (Below.refl _ _).alloc (Nat.le_refl _) _)
  by_cases hok : Vw.Ok l
  · have HC := Lib.hid (fun w' (hb : Below w.heap.size w w') => show Calls Try.prog 21 #[.slice q n c] w' (ErrDone 0 w') from by
      have := rvcheck_any l n q c w' hn (hl.below hb); rwa [show Vw.err l = 0 from if_pos hok] at this)
    have HW := Lib.hid (fun w' (hb : Below w.heap.size w w') => word_any l n q c nd w' hn (hl.below hb))
    have HV := Lib.hid (Vw.get_ok nd hok)
    generalize Vw.wordR l nd = r at *
    obtain ⟨x, t⟩ := r
    simp only at HV
    clear hok hn hl
    go_enter Try.func14, Try.ntmps14
    go_wp2_with fail
    refine (HC.out _ HB0.out).mono ?_
    rintro e w1 ⟨rfl, hb1⟩
    have HB1 := Lib.hid (below_next HB0.out hb1)
    have P1 := Lib.hid (P0.out.upon hb1)
    clear hb1
    go_wp2_with fail
    refine (HW.out _ HB1.out).mono ?_
    rintro e w2 ⟨rfl, hb2⟩
    have s2 := put_run w2 x
    have hb3 := Below.go hb2 (put_below w2 x)
    have P2 := Lib.hid (P1.out.upon hb3)
    have HB2 := Lib.hid (below_next HB1.out hb3)
    have P3 := Lib.hid (put_blk w2 x)
    have l3 := run_loadM (rangeM_of P3.out)
    clear hb2 hb3
    generalize putM w2 x = w3 at *
    have s3 := run_storeM (a := x) P2.out
    have P4 := Lib.hid (P2.out.row (mc x))
    have HB4 := Lib.hid (Below.setRow HB2.out (Nat.le_refl _) (mc x).toArray)
    generalize w3.setRow w.heap.size (mc x).toArray = w4 at *
    cases t with
    | true =>
      go_wp2_with fail
      exact bodyPost_ret (results_m1 rfl _ _ _ x (.int .i64 0) rfl rfl P4.out) rfl ⟨by rw [HV.out]; rfl, HB4.out⟩
    | false =>
      go_wp2_with fail
      exact bodyPost_ret (results_m1 rfl _ _ _ x (.int .i64 6) rfl rfl P4.out) rfl ⟨by rw [HV.out]; rfl, HB4.out⟩
  · have HC := Lib.hid (fun w' (hb : Below w.heap.size w w') => show Calls Try.prog 21 #[.slice q n c] w' (ErrDone 2 w') from by
      have := rvcheck_any l n q c w' hn (hl.below hb); rwa [show Vw.err l = 2 from if_neg hok] at this)
    have HV := Lib.hid (show Vw.get l nd = (Mb.none, 2) from if_neg hok)
    clear hok hn hl
    go_enter Try.func14, Try.ntmps14
    go_wp2_with fail
    refine (HC.out _ HB0.out).mono ?_
    rintro e w1 ⟨rfl, hb1⟩
    have HB1 := Lib.hid (below_next HB0.out hb1)
    have P1 := Lib.hid (P0.out.upon hb1)
    clear hb1
    have s1 : (storeM mt (.pointer (some ⟨w.heap.size, 0, none⟩)) (.agg #[.int .i64 0, .int .i64 0, .int .i64 0])).run Try.prog w1 = .ok .skip (w1.setRow w.heap.size (mc Mb.none).toArray) := run_storeM (a := Mb.none) P1.out
    have P2 := Lib.hid (P1.out.row (mc Mb.none))
    have HB2 := Lib.hid (Below.setRow HB1.out (Nat.le_refl _) (mc Mb.none).toArray)
    generalize w1.setRow w.heap.size (mc Mb.none).toArray = w5 at *
    go_wp2_with fail
    exact bodyPost_ret (results_m1 rfl _ _ _ Mb.none (.int .i64 2) rfl rfl P2.out) rfl ⟨by rw [HV.out], HB2.out⟩
set_option maxRecDepth 100000 in
set_option maxHeartbeats 4000000 in
theorem rvlive_any (l : List Mb) (n : Nat) (q : Option Addr) (c : Nat) (w : World) (hn : l.length = n) (hl : GoodW w l q c) (hs : n ≤ 1000) :
    Calls Try.prog 18 #[.slice q n c] w (NumsDone w (Vw.live l) w) := by
  have HL := Lib.hid hl
  have HN := Lib.hid hn
  have b1 := hl.le
  have b2 := hl.max
  rw [hn] at b1
  clear hl hn
  obtain ⟨f, hf⟩ : ∃ f : Mb → Bool, f = Mb.live := ⟨_, rfl⟩
  have HP := Lib.hid (show Vw.live l = if Vw.Ok l then (l.filter f).map (·.I) else [] from by rw [hf]; rfl)
  have HFF := Lib.hid hf
  clear hf
  go_enter Try.func18, Try.ntmps18
  go_wp2_with fail
  go_loopw [4, 3] (fun i v wr => ∃ (k cnt : Nat), i = .int .i64 k ∧ k ≤ n ∧ cnt ≤ k ∧ Hid (¬ Vw.Ok l → k = 0) ∧ Hid (((l.take k).filter f).length = cnt) ∧ Hid (Own64 wr w.heap.size 3 v cnt ((((l.take k).filter f).map (·.I)).map v64)) ∧ Hid (Below w.heap.size w wr)) (fun i _ _ => n - (intOf i).toNat)
  case atStart => exact ⟨0, 0, rfl, by omega, by omega, Lib.hid (fun _ => rfl), Lib.hid (by simp), Lib.hid (Own64.nil _ _ _), Lib.hid (Below.refl _ _)⟩
  case round =>
    obtain ⟨k, cnt, rfl, hk, hck, HK0, HCN, HO, HB⟩ := hrel
    by_cases hlt : k < n
    · by_cases hok : Vw.Ok l
      · have HC := Lib.hid (fun w' (hb : Below w.heap.size w w') => show Calls Try.prog 21 #[.slice q n c] w' (ErrDone 0 w') from by
          have := rvcheck_any l n q c w' HN.out (HL.out.below hb); rwa [show Vw.err l = 0 from if_pos hok] at this)
        have hk1 : k < l.length := by rw [HN.out]; exact hlt
        obtain ⟨b, off, rfl, hr⟩ := HL.out.get k hk1
        have HRG := Lib.hid hr
        have jk : (0 : Int) ≤ (k : Int) ∧ (k : Int) < (n : Int) := by omega
        have HTK := Lib.hid (show l.take (k + 1) = l.take k ++ [l[k]] from List.take_succ_eq_append_getElem hk1)
        generalize l[k] = x at *
        clear hr hk1
        go_wp2_with fail
        refine (HC.out _ HB.out).mono ?_
        rintro e w5 ⟨rfl, hb5⟩
        have HB5 := Lib.hid (below_next HB.out hb5)
        have HO5 := Lib.hid (own64_on HO.out hb5)
        clear hb5
        have hr5 := rangeM_on HRG.out HB5.out
        have HLV := Lib.hid (rlive_any x)
        obtain ⟨bl, hbl⟩ : ∃ bl, bl = x.live := ⟨_, rfl⟩
        rw [← hbl] at HLV
        have hfx : f x = bl := by rw [HFF.out, hbl]
        clear hbl
        cases bl with
        | true =>
          have HCN2 := Lib.hid (show ((l.take (k + 1)).filter f).length = cnt + 1 from by rw [HTK.out, List.filter_append]; simp [hfx, HCN.out])
          have HV2 := Lib.hid (show ((((l.take k).filter f).map (·.I)).map v64) ++ [.int .i64 x.I] = ((((l.take (k + 1)).filter f).map (·.I)).map v64) from by rw [HTK.out, List.filter_append]; simp [hfx])
          clear hfx
          have l5 := run_loadM hr5
          go_wp2_with fail
          refine (HLV.out _).mono ?_
          rintro e w6 ⟨rfl, hb6⟩
          have HB6 := Lib.hid (below_next HB5.out hb6)
          have HO6 := Lib.hid (own64_on HO5.out hb6)
          have hr6 := rangeM_on HRG.out HB6.out
          clear hb6 l5 hr5
          have HAT := Lib.hid (at_one w6 (.int .i64 x.I) 3)
          have HO7 := Lib.hid (HO6.out.alloc (.cells #[.int .i64 x.I] 3))
          have HB7 := Lib.hid (below_alloc0 HB6.out (.cells #[.int .i64 x.I] 3))
          have cI := rangeM_I hr6
          go_wp2_with (refine wpList_app64 rfl _ _ 32 rfl w.heap.size 3 Try.underlying32 knum_info _ cnt _ rfl HO7.out _ 1 1 [.int .i64 x.I] rfl HAT.out rfl (fun h => by cases h) (Nat.le_refl _) (by intro u hu; simp at hu; exact ⟨_, hu⟩) (by omega) (by unfold maxLen; omega) HB7.out.size ?_; intro v' w8 hv' hg' hb' hs')
          have HB8 := Lib.hid (HB7.out.trans hb')
          go_roundw
          case rel => exact ⟨k + 1, cnt + 1, by go_num, by omega, by omega, Lib.hid (fun h => absurd hok h), HCN2, Lib.hid (by rw [← HV2.out]; exact hv'), HB8⟩
          case measure => simp [intOf]; omega
        | false =>
          have HCN2 := Lib.hid (show ((l.take (k + 1)).filter f).length = cnt from by rw [HTK.out, List.filter_append]; simp [hfx, HCN.out])
          have HV2 := Lib.hid (show ((((l.take k).filter f).map (·.I)).map v64) = ((((l.take (k + 1)).filter f).map (·.I)).map v64) from by rw [HTK.out, List.filter_append]; simp [hfx])
          clear hfx
          have l5 := run_loadM hr5
          go_wp2_with fail
          refine (HLV.out _).mono ?_
          rintro e w6 ⟨rfl, hb6⟩
          have HB6 := Lib.hid (below_next HB5.out hb6)
          have HO6 := Lib.hid (own64_on HO5.out hb6)
          have hr6 := rangeM_on HRG.out HB6.out
          clear hb6 l5 hr5
          go_wp2_with fail
          go_roundw
          case rel => exact ⟨k + 1, cnt, by go_num, by omega, by omega, Lib.hid (fun h => absurd hok h), HCN2, Lib.hid (by rw [← HV2.out]; exact HO6.out), HB6⟩
          case measure => simp [intOf]; omega
      · obtain rfl : k = 0 := HK0.out hok
        have HC := Lib.hid (fun w' (hb : Below w.heap.size w w') => show Calls Try.prog 21 #[.slice q n c] w' (ErrDone 2 w') from by
          have := rvcheck_any l n q c w' HN.out (HL.out.below hb); rwa [show Vw.err l = 2 from if_neg hok] at this)
        have HE := Lib.hid (show Vw.live l = [] from by rw [HP.out, if_neg hok])
        obtain rfl : cnt = 0 := by omega
        have t0 : decide ((0 : Int) < (n : Int)) = true := decide_eq_true (by omega)
        have t0' : decide (0 < n) = true := decide_eq_true (by omega)
        go_wp2_with fail
        refine (HC.out _ HB.out).mono ?_
        rintro e w5 ⟨rfl, hb5⟩
        have HB5 := Lib.hid (below_next HB.out hb5)
        have HO5 := Lib.hid (own64_on HO.out hb5)
        clear hb5
        go_wp2_with fail
        go_ret
        exact ⟨_, rfl, by rw [HE.out]; simpa using HO5.out, HB5.out⟩
    · obtain rfl : n = k := by omega
      have HE := Lib.hid (show (((l.take n).filter f).map (·.I)) = Vw.live l from by
        rw [HP.out, List.take_of_length_le (by rw [HN.out]; exact Nat.le_refl _)]
        by_cases hok : Vw.Ok l
        · rw [if_pos hok]
        · have hl0 : l = [] := List.eq_nil_of_length_eq_zero (by rw [HN.out]; exact HK0.out hok)
          rw [if_neg hok, hl0]; rfl)
      have HLN := Lib.hid (show cnt = (Vw.live l).length from by rw [← HE.out, List.length_map, HCN.out])
      go_wp2_with fail
      go_ret
      exact ⟨_, rfl, by rw [← HLN.out, ← HE.out]; exact HO.out, HB.out⟩
set_option maxRecDepth 100000 in
set_option maxHeartbeats 4000000 in
theorem rvalive_any (l : List Mb) (n : Nat) (q : Option Addr) (c : Nat) (w : World) (hn : l.length = n) (hl : GoodW w l q c) (hs : n ≤ 1000) :
    Calls Try.prog 19 #[.slice q n c] w (NumsDone w (Vw.alive l) w) := by
  have HL := Lib.hid hl
  have HN := Lib.hid hn
  have b1 := hl.le
  have b2 := hl.max
  rw [hn] at b1
  clear hl hn
  obtain ⟨f, hf⟩ : ∃ f : Mb → Bool, f = fun x => x.S == 1 := ⟨_, rfl⟩
  have HP := Lib.hid (show Vw.alive l = if Vw.Ok l then (l.filter f).map (·.I) else [] from by rw [hf]; rfl)
  have HFF := Lib.hid hf
  clear hf
  go_enter Try.func19, Try.ntmps19
  go_wp2_with fail
  go_loopw [4, 3] (fun i v wr => ∃ (k cnt : Nat), i = .int .i64 k ∧ k ≤ n ∧ cnt ≤ k ∧ Hid (¬ Vw.Ok l → k = 0) ∧ Hid (((l.take k).filter f).length = cnt) ∧ Hid (Own64 wr w.heap.size 3 v cnt ((((l.take k).filter f).map (·.I)).map v64)) ∧ Hid (Below w.heap.size w wr)) (fun i _ _ => n - (intOf i).toNat)
  case atStart => exact ⟨0, 0, rfl, by omega, by omega, Lib.hid (fun _ => rfl), Lib.hid (by simp), Lib.hid (Own64.nil _ _ _), Lib.hid (Below.refl _ _)⟩
  case round =>
    obtain ⟨k, cnt, rfl, hk, hck, HK0, HCN, HO, HB⟩ := hrel
    by_cases hlt : k < n
    · by_cases hok : Vw.Ok l
      · have HC := Lib.hid (fun w' (hb : Below w.heap.size w w') => show Calls Try.prog 21 #[.slice q n c] w' (ErrDone 0 w') from by
          have := rvcheck_any l n q c w' HN.out (HL.out.below hb); rwa [show Vw.err l = 0 from if_pos hok] at this)
        have hk1 : k < l.length := by rw [HN.out]; exact hlt
        obtain ⟨b, off, rfl, hr⟩ := HL.out.get k hk1
        have HRG := Lib.hid hr
        have jk : (0 : Int) ≤ (k : Int) ∧ (k : Int) < (n : Int) := by omega
        have HTK := Lib.hid (show l.take (k + 1) = l.take k ++ [l[k]] from List.take_succ_eq_append_getElem hk1)
        generalize l[k] = x at *
        clear hr hk1
        go_wp2_with fail
        refine (HC.out _ HB.out).mono ?_
        rintro e w5 ⟨rfl, hb5⟩
        have HB5 := Lib.hid (below_next HB.out hb5)
        have HO5 := Lib.hid (own64_on HO.out hb5)
        clear hb5
        have hr5 := rangeM_on HRG.out HB5.out
        by_cases hS : x.S = 1
        · have t1 : (x.S == 1) = true := by simpa using hS
          have hfx : f x = true := by rw [HFF.out]; simpa using hS
          clear hS
          have HCN2 := Lib.hid (show ((l.take (k + 1)).filter f).length = cnt + 1 from by rw [HTK.out, List.filter_append]; simp [hfx, HCN.out])
          have HV2 := Lib.hid (show ((((l.take k).filter f).map (·.I)).map v64) ++ [.int .i64 x.I] = ((((l.take (k + 1)).filter f).map (·.I)).map v64) from by rw [HTK.out, List.filter_append]; simp [hfx])
          clear hfx
          have cS := rangeM_S hr5
          have HB6 := HB5
          have HO6 := HO5
          have hr6 := hr5
          generalize w5 = w6 at *
          have HAT := Lib.hid (at_one w6 (.int .i64 x.I) 3)
          have HO7 := Lib.hid (HO6.out.alloc (.cells #[.int .i64 x.I] 3))
          have HB7 := Lib.hid (below_alloc0 HB6.out (.cells #[.int .i64 x.I] 3))
          have cI := rangeM_I hr6
          go_wp2_with (refine wpList_app64 rfl _ _ 32 rfl w.heap.size 3 Try.underlying32 knum_info _ cnt _ rfl HO7.out _ 1 1 [.int .i64 x.I] rfl HAT.out rfl (fun h => by cases h) (Nat.le_refl _) (by intro u hu; simp at hu; exact ⟨_, hu⟩) (by omega) (by unfold maxLen; omega) HB7.out.size ?_; intro v' w8 hv' hg' hb' hs')
          have HB8 := Lib.hid (HB7.out.trans hb')
          go_roundw
          case rel => exact ⟨k + 1, cnt + 1, by go_num, by omega, by omega, Lib.hid (fun h => absurd hok h), HCN2, Lib.hid (by rw [← HV2.out]; exact hv'), HB8⟩
          case measure => simp [intOf]; omega
        · have t1 : (x.S == 1) = false := by simpa using hS
          have hfx : f x = false := by rw [HFF.out]; simpa using hS
          clear hS
          have HCN2 := Lib.hid (show ((l.take (k + 1)).filter f).length = cnt from by rw [HTK.out, List.filter_append]; simp [hfx, HCN.out])
          have HV2 := Lib.hid (show ((((l.take k).filter f).map (·.I)).map v64) = ((((l.take (k + 1)).filter f).map (·.I)).map v64) from by rw [HTK.out, List.filter_append]; simp [hfx])
          clear hfx
          have cS := rangeM_S hr5
          have HB6 := HB5
          have HO6 := HO5
          generalize w5 = w6 at *
          go_wp2_with fail
          go_roundw
          case rel => exact ⟨k + 1, cnt, by go_num, by omega, by omega, Lib.hid (fun h => absurd hok h), HCN2, Lib.hid (by rw [← HV2.out]; exact HO6.out), HB6⟩
          case measure => simp [intOf]; omega
      · obtain rfl : k = 0 := HK0.out hok
        have HC := Lib.hid (fun w' (hb : Below w.heap.size w w') => show Calls Try.prog 21 #[.slice q n c] w' (ErrDone 2 w') from by
          have := rvcheck_any l n q c w' HN.out (HL.out.below hb); rwa [show Vw.err l = 2 from if_neg hok] at this)
        have HE := Lib.hid (show Vw.alive l = [] from by rw [HP.out, if_neg hok])
        obtain rfl : cnt = 0 := by omega
        have t0 : decide ((0 : Int) < (n : Int)) = true := decide_eq_true (by omega)
        have t0' : decide (0 < n) = true := decide_eq_true (by omega)
        go_wp2_with fail
        refine (HC.out _ HB.out).mono ?_
        rintro e w5 ⟨rfl, hb5⟩
        have HB5 := Lib.hid (below_next HB.out hb5)
        have HO5 := Lib.hid (own64_on HO.out hb5)
        clear hb5
        go_wp2_with fail
        go_ret
        exact ⟨_, rfl, by rw [HE.out]; simpa using HO5.out, HB5.out⟩
    · obtain rfl : n = k := by omega
      have HE := Lib.hid (show (((l.take n).filter f).map (·.I)) = Vw.alive l from by
        rw [HP.out, List.take_of_length_le (by rw [HN.out]; exact Nat.le_refl _)]
        by_cases hok : Vw.Ok l
        · rw [if_pos hok]
        · have hl0 : l = [] := List.eq_nil_of_length_eq_zero (by rw [HN.out]; exact HK0.out hok)
          rw [if_neg hok, hl0]; rfl)
      have HLN := Lib.hid (show cnt = (Vw.alive l).length from by rw [← HE.out, List.length_map, HCN.out])
      go_wp2_with fail
      go_ret
      exact ⟨_, rfl, by rw [← HLN.out, ← HE.out]; exact HO.out, HB.out⟩
end
end
end Go.Proofs.Ytocfcfoocmkkdaa
