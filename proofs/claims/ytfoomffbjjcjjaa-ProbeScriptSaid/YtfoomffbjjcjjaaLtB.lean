/-
  The reference's lots do what lots are asked to do.
-/
import Derived.Test.YtfoomffbjjcjjaaLtA
import Derived.Deep.QuietTactic
import Derived.BigQuiet
namespace Go.Proofs.Ytfoomffbjjcjjaa
set_option linter.unusedSimpArgs false
set_option linter.unusedVariables false
open Go.RowKit Sha Lot
def RefLot : LotRep := fun w b fp L N => ∃ p cap, fp = b :: (p.map (·.block)).toList ∧ Blk w b [.slice p L.length cap, .int .i64 N] 49 ∧ GoodN w L p cap ∧ L.length ≤ 1000 ∧ (∀ n ∈ L, 0 ≤ n) ∧ (∀ a, p = some a → a.block ≠ b ∧ a.block < w.heap.size)
theorem RefLot.mem {w : World} {b : Nat} {fp : List Nat} {L : List Int} {N : Nat} (h : RefLot w b fp L N) : b ∈ fp := by
  obtain ⟨p, cap, rfl, _⟩ := h; simp
theorem RefLot.low {w : World} {b : Nat} {fp : List Nat} {L : List Int} {N : Nat} (h : RefLot w b fp L N) : ∀ k ∈ fp, k < w.heap.size := by
  obtain ⟨p, cap, rfl, hb, _, _, _, hp⟩ := h
  intro k hk
  rcases List.mem_cons.1 hk with rfl | hk
  · exact hb.lt
  · cases p with
    | none => simp at hk
    | some a => simp at hk; subst hk; exact (hp a rfl).2
theorem RefLot.keep {w w' : World} {b : Nat} {fp : List Nat} {L : List Int} {N : Nat} (h : RefLot w b fp L N) (hk : ∀ k ∈ fp, w'.heap[k]? = w.heap[k]?) : RefLot w' b fp L N := by
  obtain ⟨p, cap, rfl, hb, hg, h1, h0, hp⟩ := h
  have hkp : ∀ a, p = some a → w'.heap[a.block]? = w.heap[a.block]? := fun a ha => hk _ (by rw [ha]; simp)
  refine ⟨p, cap, rfl, (hk b (by simp)).trans hb, ⟨hg.nums, hg.at_.blocks hkp, hg.le, hg.max, hg.nil⟩, h1, h0, fun a ha => ⟨(hp a ha).1, ?_⟩⟩
  have h2 := hkp a ha
  rw [Array.getElem?_eq_getElem (hp a ha).2] at h2
  exact (Array.getElem?_eq_some_iff.1 h2).1
/-- One more is used: the block written anew. -/
theorem RefLot.used {w : World} {b : Nat} {fp : List Nat} {L : List Int} {N : Nat} (h : RefLot w b fp L N) (M : Nat) : RefLot (w.setCell ⟨b, 1, none⟩ (.int .i64 M)) b fp L M := by
  obtain ⟨p, cap, rfl, hb, hg, h1, h0, hp⟩ := h
  have hkp : ∀ a, p = some a → (w.setCell ⟨b, 1, none⟩ (.int .i64 M)).heap[a.block]? = w.heap[a.block]? := fun a ha => Below.heap_setCell _ _ _ _ (hp a ha).1
  exact ⟨p, cap, rfl, hb.set 1 _, ⟨hg.nums, hg.at_.blocks hkp, hg.le, hg.max, hg.nil⟩, h1, h0, fun a ha => ⟨(hp a ha).1, by have := (hp a ha).2; simpa using this⟩⟩
theorem RefLot.drewN {w : World} {b : Nat} {fp : List Nat} {L : List Int} {N : Nat} (h : RefLot w b fp L N) (m : Nat) : RefLot (w.drewN m) b fp L N := h.keep fun _ _ => rfl
set_option maxRecDepth 100000 in
set_option maxHeartbeats 1000000 in
theorem rdraw_any (b : Nat) (fp : List Nat) (L : List Int) (N : Nat) (w : World) (h : RefLot w b fp L N) (hN : N ≤ 2000000000) :
    Calls Try.prog 51 #[lptr b] w (OpDone RefLot b fp L (N + 1) (v64 (lotAt L N)) w) := by
  have hcast : ((N + 1 : Nat) : Int) = (N : Int) + 1 := by push_cast; rfl
  have hr := h.used (N + 1)
  have hm : Touch fp w (w.setCell ⟨b, 1, none⟩ (.int .i64 ((N : Int) + 1))) := Touch.setCell h.mem
  rw [hcast] at hr
  obtain ⟨p, cap, hfp, hb, hg, h1, h0, hp⟩ := h
  have c0 : w.cell? ⟨b, 0, none⟩ = some (.slice p L.length cap) := hb.cell 0
  have c1 : w.cell? ⟨b, 1, none⟩ = some (.int .i64 N) := hb.cell 1
  have f1 : w.frozen? ⟨b, 1, none⟩ = false := hb.free 1
  have hb2 := hb.set 1 (.int .i64 ((N : Int) + 1))
  have d0 : (w.setCell ⟨b, 1, none⟩ (.int .i64 ((N : Int) + 1))).cell? ⟨b, 0, none⟩ = some (.slice p L.length cap) := hb2.cell 0
  have d1 : (w.setCell ⟨b, 1, none⟩ (.int .i64 ((N : Int) + 1))).cell? ⟨b, 1, none⟩ = some (.int .i64 ((N : Int) + 1)) := hb2.cell 1
  have hAt : At (w.setCell ⟨b, 1, none⟩ (.int .i64 ((N : Int) + 1))) p (L.map v64) := hg.at_.blocks fun a ha => Below.heap_setCell _ _ _ _ (hp a ha).1
  have hle := hg.le
  have hmx := hg.max
  obtain ⟨n, hn⟩ : ∃ n, n = L.length := ⟨_, rfl⟩
  rw [← hn] at c0 d0 hle h1
  obtain ⟨w2, hw2⟩ : ∃ x, x = w.setCell ⟨b, 1, none⟩ (.int .i64 ((N : Int) + 1)) := ⟨_, rfl⟩
  rw [← hw2] at hr hm d0 d1 hAt
  have HW2 := Lib.hid hw2
  have HR := Lib.hid hr
  have HM := Lib.hid hm
  clear hr hm hb hb2 hg h0 hp hw2 hfp
  by_cases hlt : N < n
  · have HL := Lib.hid (lotAt_in (L := L) (N := N) (by omega))
    obtain ⟨g, off, rfl, hcell⟩ := hAt.addr (by rw [List.length_map]; omega)
    have d2 : w2.cell? ⟨g, off + N, none⟩ = some (v64 (L[N]'(by omega))) := hcell N _ (by rw [List.getElem?_map, List.getElem?_eq_getElem (by omega)]; rfl)
    obtain ⟨x, hx⟩ : ∃ x, x = L[N]'(by omega) := ⟨_, rfl⟩
    rw [← hx] at HL d2
    clear hAt hcell hx hn hcast
    go_enter Try.func51, Try.ntmps51
    go_wp2_with fail
    rw [← HW2.out]
    have hd : decide ((n : Int) < (N : Int) + 1) = false := decide_eq_false (by omega)
    go_quiet (fail)
    obtain ⟨w3, hw3⟩ : ∃ x, x = w2.drewN nq := ⟨_, rfl⟩
    have e0 : w3.cell? ⟨b, 0, none⟩ = some (.slice (some ⟨g, off, none⟩) n cap) := by rw [hw3]; exact d0
    have e1 : w3.cell? ⟨b, 1, none⟩ = some (.int .i64 ((N : Int) + 1)) := by rw [hw3]; exact d1
    have e2 : w3.cell? ⟨g, off + N, none⟩ = some (v64 x) := by rw [hw3]; exact d2
    rw [← hw3]
    have HW3 := Lib.hid hw3
    clear hw3 d0 d1 d2
    have i1 : IntKind.i64.wrap ((N : Int) + 1 - 1) = (N : Int) := by rw [IntWalk.i64_in _ (by omega)]; omega
    have i2 : (0 : Int) ≤ (N : Int) := by omega
    have i3 : (N : Int) < (n : Int) := by omega
    have i4 : ((N : Int)).toNat = N := by omega
    have i5 : (N : Int) + 1 - 1 = (N : Int) := by omega
    go_wp2_with fail
    go_quiet (fail)
    go_wp2_with fail
    go_ret
    exact ⟨by rw [HL.out]; rfl, fp, by rw [HW3.out]; exact (HR.out.drewN _).drewN _, by rw [HW3.out]; exact (HM.out.drewN _).drewN _, From.refl _ _⟩
  · have HL := Lib.hid (lotAt_out (L := L) (N := N) (by omega))
    clear hAt hn hcast
    go_enter Try.func51, Try.ntmps51
    go_wp2_with fail
    rw [← HW2.out]
    have hd : decide ((n : Int) < (N : Int) + 1) = true := decide_eq_true (by omega)
    go_quiet (fail)
    go_wp2_with fail
    go_ret
    exact ⟨by rw [HL.out]; rfl, fp, HR.out.drewN _, HM.out.drewN _, From.refl _ _⟩
set_option maxHeartbeats 400000 in
theorem rpick_any (b : Nat) (fp : List Nat) (L : List Int) (N : Nat) (n : Int) (w : World) (h : RefLot w b fp L N) (hN : N ≤ 2000000000) (hn : -9223372036854775808 ≤ n ∧ n ≤ 9223372036854775807) :
    Calls Try.prog 45 #[lptr b, .int .i64 n] w (OpDone RefLot b fp L (N + pickN n) (v64 (pickV L N n)) w) := by
  obtain ⟨hn1, hn2⟩ := hn
  by_cases h2 : n < 2
  · have HV := Lib.hid (show pickV L N n = 0 by unfold pickV; rw [if_pos h2])
    have HP := Lib.hid (show pickN n = 0 by unfold pickN; rw [if_pos h2])
    have HR := Lib.hid h
    clear h
    go_enter Try.func45, Try.ntmps45
    go_wp2_with fail
    go_ret
    exact ⟨by rw [HV.out]; rfl, fp, by rw [HP.out]; exact HR.out, Touch.refl _ _, From.refl _ _⟩
  · have HV := Lib.hid (show pickV L N n = lotAt L N % n by unfold pickV; rw [if_neg h2])
    have HP := Lib.hid (show pickN n = 1 by unfold pickN; rw [if_neg h2])
    have hp : 0 ≤ lotAt L N := by obtain ⟨p, cap, _, _, _, _, h0, _⟩ := h; exact lotAt_pos h0 N
    have hq : lotAt L N ≤ 9223372036854775807 := by obtain ⟨p, cap, _, _, hg, _, _, _⟩ := h; exact lotAt_le (fun n hn => (hg.nums n hn).2) N
    have HD := Lib.hid (rdraw_any b fp L N w h hN)
    clear h
    generalize lotAt L N = x at *
    go_enter Try.func45, Try.ntmps45
    go_wp2_with (go_at_call 51; refine HD.out.mono ?_; rintro e w1 ⟨rfl, fp1, hr1, ht1, hf1⟩; have HR1 := Lib.hid hr1; have HT1 := Lib.hid ht1; have HF1 := Lib.hid hf1; clear hr1 ht1 hf1)
    go_ret
    exact ⟨by rw [HV.out]; rfl, fp1, by rw [HP.out]; exact HR1.out, HT1.out, HF1.out⟩
theorem rising_nums (m : Nat) (hm : m ≤ 64) : ∀ n ∈ rising m, -9223372036854775808 ≤ n ∧ n ≤ 9223372036854775807 := fun n hn => by
  have := (rising_order m).2.1 n hn; omega
theorem shuf_none {L : List Int} {N : Nat} {n : Int} (h : n < 1 ∨ 64 < n) : shuf L N n = [] ∧ shufN n = 0 := by
  unfold shuf shufN; rw [if_pos h, if_pos h]; exact ⟨rfl, rfl⟩
theorem shuf_some {L : List Int} {N m : Nat} (h : 1 ≤ m ∧ m ≤ 64) : shuf L N (m : Int) = shufTo L N m (m - 1) ∧ shufN (m : Int) = m - 1 := by
  unfold shuf shufN; rw [if_neg (by omega), if_neg (by omega)]; exact ⟨rfl, rfl⟩
theorem exch_eq (l : List Int) (i k : Nat) (x y : Int) (hx : x = l.getD k 0) (hy : y = l.getD i 0) : (l.set i x).set k y = exch l i k := by rw [hx, hy]; rfl
set_option maxRecDepth 100000 in
set_option maxHeartbeats 1000000 in
theorem rshuf_any (b : Nat) (fp : List Nat) (L : List Int) (N : Nat) (m : Nat) (w : World) (h : RefLot w b fp L N) (hN : N ≤ 1000000000) (hm : m ≤ 100) :
    Calls Try.prog 44 #[lptr b, .int .i64 m] w (ShufDone RefLot b fp L (N + shufN m) (shuf L N m) w) := by
  have HR := Lib.hid h
  have HLOW := Lib.hid h.low
  clear h
  by_cases h64 : 64 < m
  · have HS := Lib.hid (shuf_none (L := L) (N := N) (n := m) (.inr (by omega)))
    go_enter Try.func44, Try.ntmps44
    go_wp2_with fail
    go_ret
    exact ⟨_, fp, rfl, by rw [HS.out.1]; exact Own64.nil _ _ _, by rw [HS.out.2]; exact HR.out, Touch.refl _ _, From.refl _ _, fun g hg => by cases hg⟩
  · go_enter Try.func44, Try.ntmps44
    go_wp2_with fail
    go_loopw [5, 6] (fun vv i wr => ∃ (k : Nat) (v : Value), i = .int .i64 k ∧ v = vv ∧ k ≤ m ∧ Hid (Own64 wr w.heap.size 3 v k ((rising k).map v64)) ∧ Hid (Below w.heap.size w wr)) (fun _ i _ => m - (intOf i).toNat)
    case atStart => exact ⟨0, _, rfl, rfl, by omega, Lib.hid (Own64.nil _ _ _), Lib.hid (Below.refl _ _)⟩
    case round =>
      obtain ⟨k, v, rfl, rfl, hk, HO, HB⟩ := hrel
      by_cases hlt : k < m
      · have HRS := Lib.hid (rising_succ k)
        go_wp2_with (at_builtin; refine wpList_app64 rfl (.tmp 17) (.tmp 19) 22 rfl w.heap.size 3 Try.underlying22 knum_info v k _ rfl (HO.out.alloc _) (some ⟨wr.heap.size, 0, none⟩) 1 1 [v64 k] rfl (at_one wr (v64 k) 3) rfl (fun h => by cases h) (by omega) (by intro u hu; rw [List.mem_singleton.1 hu]; exact ⟨_, rfl⟩) (by omega) (by unfold maxLen; omega) (by have := HB.out.size; simp; omega) ?_; intro v4 w4 hown4 _ hb4 hs4; have O4 := Lib.hid hown4; have B4 := Lib.hid ((HB.out.alloc HB.out.size _).trans hb4); clear hown4 hb4)
        go_roundw
        case rel => exact ⟨k + 1, _, by go_num, rfl, by omega, Lib.hid (by have := O4.out; rw [HRS.out, List.map_append]; exact this), B4⟩
        case measure => simp [intOf]; omega
      · obtain rfl : k = m := by omega
        by_cases hk0 : k = 0
        · subst hk0
          have HS := Lib.hid (shuf_none (L := L) (N := N) (n := ((0 : Nat) : Int)) (.inl (by omega)))
          go_wp2_with fail
          go_loopw [7] (fun i w2 => i = .int .i64 (-1) ∧ wr = w2) (fun i _ => (intOf i).toNat)
          case atStart => exact ⟨rfl, rfl⟩
          case round =>
            obtain ⟨rfl, rfl⟩ := hrel
            go_wp2_with fail
            go_ret
            refine ⟨v, fp, rfl, ?_, ?_, Touch.of_below HB.out, From.refl _ _, ?_⟩
            · rw [HS.out.1]; exact HO.out
            · rw [HS.out.2]; exact HR.out.keep fun i hi => HB.out.block i (HLOW.out i hi)
            · intro g hg hi
              have h1 := (HO.out.row.lt g hg).1
              have h2 := HLOW.out g hi
              omega
        · obtain ⟨g, cap, rest, rfl, hgB, hcap, hmx, hrl, hblk, hints⟩ := own64_blk HO.out (by omega)
          have HBK := Lib.hid hblk
          have HIN := Lib.hid (show ∀ u ∈ rest, ∃ m, u = Value.int .i64 m from fun u hu => hints u (List.mem_append_right _ hu))
          have HRL := Lib.hid hrl
          have HR1 := Lib.hid (HR.out.keep fun i hi => HB.out.block i (HLOW.out i hi))
          have HSS := Lib.hid (shuf_some (L := L) (N := N) (m := k) ⟨by omega, by omega⟩)
          unfold maxLen at hmx
          clear hblk hints hrl
          go_wp2_with fail
          go_loopw [7, 8, 9] (fun i _ _ w2 => ∃ (t : Nat) (fp2 : List Nat), i = .int .i64 ((k - 1 - t : Nat) : Int) ∧ t ≤ k - 1 ∧ Hid (Blk w2 g ((shufTo L N k t).map v64 ++ rest) 3) ∧ Hid (RefLot w2 b fp2 L (N + t)) ∧ Hid (Touch fp w w2) ∧ Hid (From fp fp2 w) ∧ Hid (g ∉ fp2)) (fun i _ _ _ => (intOf i).toNat)
          case atStart => exact ⟨0, fp, by simp; omega, by omega, HBK, HR1, Lib.hid (Touch.of_below HB.out), Lib.hid (From.refl _ _), Lib.hid (fun hi => by have := HLOW.out g hi; omega)⟩
          case round =>
            obtain ⟨t, fp2, rfl, ht, HK, HRT, HT, HF, HG⟩ := hrel
            by_cases hlt2 : t < k - 1
            · have HPK := Lib.hid (show Calls Try.prog 45 #[lptr b, .int .i64 (((k - 1 - t : Nat) : Int) + 1)] wr (OpDone RefLot b fp2 L (N + t + 1) (v64 (place L N k t : Nat)) wr) by
                have h1 := rpick_any b fp2 L (N + t) ((k - t : Nat) : Int) wr HRT.out (by omega) (by omega)
                rw [pick_place L N k t (by omega), show pickN ((k - t : Nat) : Int) = 1 by unfold pickN; rw [if_neg (by omega)]] at h1
                rw [show ((k - 1 - t : Nat) : Int) + 1 = ((k - t : Nat) : Int) by omega]
                exact h1)
              have hjl := place_lt L N k t (by omega)
              have hsl := shufTo_length L N k t
              have HSL := Lib.hid hsl
              have HNX := Lib.hid (show shufTo L N k (t + 1) = exch (shufTo L N k t) (k - 1 - t) (place L N k t) from rfl)
              generalize place L N k t = j at *
              generalize shufTo L N k t = l at *
              obtain ⟨i, hi⟩ : ∃ i, i = k - 1 - t := ⟨_, rfl⟩
              rw [← hi] at HPK HNX
              have hik : i < k := by omega
              have hjk : j < k := by omega
              have hi1 : 1 ≤ i := by omega
              have HI := Lib.hid hi
              rw [← hi]
              clear hsl hi
              go_wp2_with fail
              refine HPK.out.mono ?_
              rintro e w1 ⟨rfl, fp3, hr3, ht3, hf3⟩
              have hk3 := (ht3.block g HK.out.lt HG.out).trans HK.out
              have K3 := Lib.hid (show Blk w1 g (l.map v64 ++ rest) 3 from hk3)
              have HR3 := Lib.hid hr3
              have HT3 := Lib.hid (HT.out.trans ht3 HF.out)
              have HF3 := Lib.hid (HF.out.trans hf3 HT.out.size)
              have HG3 := Lib.hid (show g ∉ fp3 from fun e => by rcases hf3 g e with h' | h'; exact HG.out h'; have := HK.out.lt; omega)
              have k4 := K3.out.front64 i (by rw [HSL.out]; exact hik) (l.getD j 0)
              have ci : w1.cell? ⟨g, i, none⟩ = some (v64 (l.getD i 0)) := K3.out.get64 i (by rw [HSL.out]; exact hik)
              have cj : w1.cell? ⟨g, j, none⟩ = some (v64 (l.getD j 0)) := K3.out.get64 j (by rw [HSL.out]; exact hjk)
              have fi : w1.frozen? ⟨g, i, none⟩ = false := K3.out.free i
              have cj2 : (w1.setCell ⟨g, i, none⟩ (v64 (l.getD j 0))).cell? ⟨g, j, none⟩ = some (v64 ((l.set i (l.getD j 0)).getD j 0)) := k4.get64 j (by rw [List.length_set, HSL.out]; exact hjk)
              have fj2 : (w1.setCell ⟨g, i, none⟩ (v64 (l.getD j 0))).frozen? ⟨g, j, none⟩ = false := k4.free j
              have K5 := Lib.hid (k4.front64 j (by rw [List.length_set, HSL.out]; exact hjk) (l.getD i 0))
              obtain ⟨li, hli⟩ : ∃ x, x = l.getD i 0 := ⟨_, rfl⟩
              obtain ⟨lj, hlj⟩ : ∃ x, x = l.getD j 0 := ⟨_, rfl⟩
              rw [← hlj] at cj cj2 fj2 K5
              rw [← hli] at ci K5
              have HLI := Lib.hid hli
              have HLJ := Lib.hid hlj
              obtain ⟨lx, hlx⟩ : ∃ x, x = (l.set i lj).getD j 0 := ⟨_, rfl⟩
              rw [← hlx] at cj2
              clear hr3 ht3 hf3 hk3 k4 hli hlj hlx HPK HK HRT HT HF HG HB HO HBK HR1
              go_wp2_with fail
              go_roundw
              case rel =>
                refine ⟨t + 1, fp3, congrArg (Value.int .i64) (by have := HI.out; omega), by omega, Lib.hid ?_, Lib.hid ?_, Lib.hid ?_, HF3, HG3⟩
                · have h1 := K5.out
                  rw [exch_eq l i j lj li HLJ.out HLI.out, ← HNX.out] at h1
                  exact h1
                · exact HR3.out.keep fun q hq => by
                    have hne : q ≠ g := fun e => HG3.out (by rw [← e]; exact hq)
                    exact (Below.heap_setCell _ _ _ _ hne).trans (Below.heap_setCell _ _ _ _ hne)
                · exact (HT3.out.setNew hgB _).setNew hgB _
              case measure => simp [intOf]; omega
            · obtain rfl : t = k - 1 := by omega
              have h0 : (((k - 1 - (k - 1) : Nat) : Int)) = 0 := by omega
              rw [h0]
              go_wp2_with fail
              go_ret
              refine ⟨_, fp2, rfl, ?_, by rw [HSS.out.2]; exact HRT.out, HT.out, HF.out, fun g' hg' => by cases hg'; exact HG.out⟩
              rw [HSS.out.1]
              have hl := shufTo_length L N k (k - 1)
              have := own64_of_blk (n := k) (cap := cap) HK.out hgB (by rw [List.length_map, hl]) HRL.out (by unfold maxLen; exact hmx) (by intro u hu; rcases List.mem_append.1 hu with hu | hu; exact ints64_map _ u hu; exact HIN.out u hu)
              rw [hl]; exact this
set_option maxRecDepth 100000 in
set_option maxHeartbeats 1000000 in
theorem rnew_any (zs : List Int) (n : Nat) (p : Option Addr) (cap : Nat) (w : World) (hn : zs.length = n) (h : GoodN w zs p cap) :
    Calls Try.prog 10 #[.slice p n cap] w (NewDone RefLot zs w) := by
  have G := Lib.hid h
  have HN := Lib.hid hn
  have hc : n ≤ cap := by rw [← hn]; exact h.le
  have hcm := h.max
  clear h
  by_cases h1 : 1000 < n
  · have HE := Lib.hid (newErr_long (L := zs) (by omega))
    clear hn
    go_enter Try.func10, Try.ntmps10
    go_wp2_with fail
    go_ret2
    exact ⟨Below.refl _ _, .inr ⟨by rw [HE.out]; omega, by rw [HE.out]; rfl⟩⟩
  · clear hn
    go_enter Try.func10, Try.ntmps10
    go_wp2_with fail
    go_loop [4] (fun i => ∃ k : Nat, i = .int .i64 k ∧ k ≤ n ∧ Hid (∀ x ∈ zs.take k, 0 ≤ x)) (fun i => n - (intOf i).toNat)
    case atStart => exact ⟨0, rfl, by omega, Lib.hid (by simp)⟩
    case round =>
      obtain ⟨k, rfl, hk, HP⟩ := hrel
      by_cases hlt : k < n
      · have hkz : k < zs.length := by rw [HN.out]; exact hlt
        obtain ⟨b, off, rfl, hcell⟩ := G.out.at_.addr (by rw [List.length_map]; omega)
        have c1 : w.cell? ⟨b, off + k, none⟩ = some (v64 zs[k]) := hcell k _ (by rw [List.getElem?_map, List.getElem?_eq_getElem hkz]; rfl)
        have HTK := Lib.hid (show zs.take (k + 1) = zs.take k ++ [zs[k]] from List.take_succ_eq_append_getElem hkz)
        have HEA := Lib.hid (fun h => newErr_arg (L := zs) (by rw [HN.out]; omega) k hkz h)
        obtain ⟨x, hx⟩ : ∃ x, x = zs[k] := ⟨_, rfl⟩
        rw [← hx] at c1 HTK HEA
        clear hcell hkz hx
        by_cases h0 : x < 0
        · have HE := Lib.hid (HEA.out h0)
          clear HEA
          go_wp2_with fail
          go_ret2
          exact ⟨Below.refl _ _, .inr ⟨by rw [HE.out]; omega, by rw [HE.out]; rfl⟩⟩
        · clear HEA
          go_wp2_with fail
          go_round
          case rel =>
            refine ⟨k + 1, by go_num, by omega, Lib.hid fun y hy => ?_⟩
            rw [HTK.out] at hy
            rcases List.mem_append.1 hy with hy | hy
            · exact HP.out y hy
            · rw [List.mem_singleton.1 hy]; omega
          case measure => simp [intOf]; omega
      · obtain rfl : k = n := by omega
        have hp : ∀ x ∈ zs, 0 ≤ x := by
          have := HP.out
          rwa [List.take_of_length_le (by rw [HN.out]; exact Nat.le_refl _)] at this
        have HE := Lib.hid (newErr_zero (L := zs) (by rw [HN.out]; omega) hp)
        have HPP := Lib.hid hp
        have HO := Lib.hid (Own64.mk (World.ownsRow_made (base := w.heap.size) (size := 1) (e := 3) w #[] 0 (Nat.le_refl _) (by decide) rfl) (ints64_block (n := 0) (c := 0) (heap_alloc_new _ _) (by simp)))
        clear hp
        go_wp2_with (at_builtin; refine wpList_app64 rfl (.tmp 19) (.tmp 20) 22 rfl w.heap.size 3 Try.underlying22 knum_info _ 0 [] rfl HO.out p k cap (zs.map v64) rfl (G.out.at_.alloc _) (by rw [List.length_map]; exact HN.out) G.out.nil hc (ints64_map _) (by omega) (by unfold maxLen; omega) (by simp) ?_; intro v2 w2 hown2 _ hb2 hs2; simp only [Nat.zero_add, List.nil_append] at hown2; have B2 := Lib.hid (((Below.refl w.heap.size w).alloc (Nat.le_refl _) _).trans hb2); obtain ⟨q2, c2, rfl, hl2, hg2⟩ := hown2.good G.out.nums; have O2 := Lib.hid hown2; have G2 := Lib.hid hg2; clear hown2 hb2 hg2 hl2)
        go_ret2
        refine ⟨B2.out.alloc B2.out.size _, .inl ⟨HE.out, w2.heap.size, w2.heap.size :: (q2.map (·.block)).toList, rfl, ?_, ?_⟩⟩
        · refine ⟨q2, c2, rfl, by have h1 := Blk.new w2 #[.slice q2 k c2, .int .i64 0] 49; rw [HN.out]; exact h1, G2.out.below ((Below.refl _ w2).alloc (Nat.le_refl _) _), by rw [HN.out]; omega, HPP.out, ?_⟩
          intro a ha
          have hlt2 := (O2.out.row.lt a.block (by rw [ha]; rfl)).2
          exact ⟨by omega, by simp; omega⟩
        · intro i hi
          rcases List.mem_cons.1 hi with rfl | hi
          · exact B2.out.size
          · cases q2 with
            | none => simp at hi
            | some a => simp at hi; subst hi; exact (O2.out.row.lt _ rfl).1
theorem refLotOK : LotOK 10 51 45 44 RefLot where
  lots := fun h => by obtain ⟨p, cap, _, _, hg, h1, h0, _⟩ := h; exact ⟨h1, h0, fun n hn => (hg.nums n hn).2⟩
  low := fun h => h.low
  keep := fun h hk => h.keep hk
  new := fun zs n p cap w hn h => rnew_any zs n p cap w hn h
  draw := fun b fp L N w h hN => rdraw_any b fp L N w h (by omega)
  pick := fun b fp L N n w h hN hn => rpick_any b fp L N n w h (by omega) hn
  shuffle := fun b fp L N m w h hN hm => rshuf_any b fp L N m w h hN hm
end Go.Proofs.Ytfoomffbjjcjjaa
