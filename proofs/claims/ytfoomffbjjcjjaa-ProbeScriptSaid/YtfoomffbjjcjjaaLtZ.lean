/-
  The program's lots do what lots are asked to do, and lots that nobody made.
-/
import Derived.Test.YtfoomffbjjcjjaaLtC
import Derived.Test.YtfoomffbjjcjjaaLtG
import Derived.Test.YtfoomffbjjcjjaaLtB
import Derived.Test.YtfoomffbjjcjjaaObjN
import Derived.Deep.QuietTactic
import Derived.BigQuiet
import Derived.BigRegion
import Derived.LaidEql
import Derived.Deep.OwnRows
namespace Go.Proofs.Ytfoomffbjjcjjaa
set_option linter.unusedSimpArgs false
set_option linter.unusedVariables false
open Go.RowKit Sha Lot
section
variable {P : Program} {o : Oper} {a : Act} {C : World → Prop} {K : Act → Prop}
/-- A cut with three indexes. -/
theorem run_cut_lhm (t e : TypeId) (p : Option Addr) (len cap : Nat) (hu : P.underlying t = some (.slice e)) (he : (P.info? e).map (fun i => i.size) = some 1) (kl kh km : IntKind) (l h m : Int) (h0 : 0 ≤ l) (h1 : l ≤ h) (h2 : h ≤ m) (h3 : m ≤ cap) (w : World) :
    (Instr.sliceAt t (.slice p len cap) (some (.int kl l)) (some (.int kh h)) (some (.int km m))).run P w = .ok (.slice (if m.toNat = l.toNat then p else p.map (·.add l.toNat)) (h.toNat - l.toNat) (m.toNat - l.toNat)) w := by
  have hu' : P.underlying t = some (.slice (P.elem t)) := by rw [elem_of hu]; exact hu
  rw [run_sliceAt_slice w t _ _ _ _ hu', run_slice_lhm w t p len cap hu' kl kh km l h m h0 h1 h2 h3, elem_of hu, size_one he]
  simp [Result.andThen, sliced]
theorem quiet_cut3 (t : TypeId) (x : Operand) (lo hi mx : Option Operand) (ho : o.op = .slice t x lo hi mx) (V : Value) (hr : ∀ w, (Instr.sliceAt t (a.eval x) (lo.map a.eval) (hi.map a.eval) (mx.map a.eval)).run P w = .ok V w) (h : K (a.put o.dst V)) : o.quiet P a C K :=
  ⟨V, fun w _ => by
    unfold Oper.quietAt execOp
    simp only [ho, Sem.run_bind, hr, Result.andThen_ok, Sem.run_pure]
    exact ⟨rfl, rfl⟩, h⟩
/-- A pointer and itself; nothing and a pointer. -/
theorem run_neq_ptr_same {tp te : TypeId} {j : TypeInfo} (a : Addr) (hp : P.underlying tp = some (.pointer te)) (hte : P.info? te = some j) (w : World) :
    (binOp .neq tp (.pointer (some a)) (.pointer (some a))).run P w = .ok (.bool false) w := by
  have h : ∀ d : Nat, (Op.equalIn (d + 1) tp (.pointer (some a)) (.pointer (some a))).run P w = .ok true w := fun d => by
    simp [Op.equalIn, run_underlying hp, typeInfo, sizeOf, run_sameAddr_same, hte]
  simp only [binOp]
  simp [Op.equal, Op.maxDepth, h 9999]
theorem run_neq_ptr_nil {tp te : TypeId} (a : Addr) (hp : P.underlying tp = some (.pointer te)) (w : World) :
    (binOp .neq tp (.pointer none) (.pointer (some a))).run P w = .ok (.bool true) w := by
  have h : ∀ d : Nat, (Op.equalIn (d + 1) tp (.pointer none) (.pointer (some a))).run P w = .ok false w := fun d => by
    simp [Op.equalIn, run_underlying hp]
  simp only [binOp]
  simp [Op.equal, Op.maxDepth, h 9999]
end
theorem info_lots : ∃ j, Try.prog.info? 64 = some j := by
  have h : (Try.prog.info? 64).isSome = true := by kernel_rfl
  exact Option.isSome_iff_exists.1 h
/-- How the program's lots lie in memory. -/
def ProgLot : LotRep := fun w b fp L N => ∃ p cap, fp = b :: (p.map (·.block)).toList ∧ Blk w b [lptr b, .slice p (L.drop N).length cap, .int .i64 N] 64 ∧ GoodN w (L.drop N) p cap ∧ L.length ≤ 1000 ∧ (∀ n ∈ L, 0 ≤ n) ∧ (∀ n ∈ L, n ≤ 9223372036854775807) ∧ (∀ a, p = some a → a.block ≠ b ∧ a.block < w.heap.size)
theorem ProgLot.mem {w : World} {b : Nat} {fp : List Nat} {L : List Int} {N : Nat} (h : ProgLot w b fp L N) : b ∈ fp := by
  obtain ⟨p, cap, rfl, _⟩ := h; simp
theorem ProgLot.low {w : World} {b : Nat} {fp : List Nat} {L : List Int} {N : Nat} (h : ProgLot w b fp L N) : ∀ k ∈ fp, k < w.heap.size := by
  obtain ⟨p, cap, rfl, hb, _, _, _, _, hp⟩ := h
  intro k hk
  rcases List.mem_cons.1 hk with rfl | hk
  · exact hb.lt
  · cases p with
    | none => simp at hk
    | some a => simp at hk; subst hk; exact (hp a rfl).2
theorem ProgLot.keep {w w' : World} {b : Nat} {fp : List Nat} {L : List Int} {N : Nat} (h : ProgLot w b fp L N) (hk : ∀ k ∈ fp, w'.heap[k]? = w.heap[k]?) : ProgLot w' b fp L N := by
  obtain ⟨p, cap, rfl, hb, hg, h1, h0, h2, hp⟩ := h
  have hkp : ∀ a, p = some a → w'.heap[a.block]? = w.heap[a.block]? := fun a ha => hk _ (by rw [ha]; simp)
  refine ⟨p, cap, rfl, (hk b (by simp)).trans hb, ⟨hg.nums, hg.at_.blocks hkp, hg.le, hg.max, hg.nil⟩, h1, h0, h2, fun a ha => ⟨(hp a ha).1, ?_⟩⟩
  have h2 := hkp a ha
  rw [Array.getElem?_eq_getElem (hp a ha).2] at h2
  exact (Array.getElem?_eq_some_iff.1 h2).1
theorem ProgLot.drewN {w : World} {b : Nat} {fp : List Nat} {L : List Int} {N : Nat} (h : ProgLot w b fp L N) (m : Nat) : ProgLot (w.drewN m) b fp L N := h.keep fun _ _ => rfl
theorem pnone_any (b : Nat) (fp : List Nat) (L : List Int) (N : Nat) (w : World) (h : ProgLot w b fp L N) :
    Calls Try.prog 37 #[lptr b] w fun e w' => e = .returned (.bool false) ∧ w' = w := by
  obtain ⟨p, cap, hfp, hb, _⟩ := h
  have c0 : w.cell? ⟨b, 0, none⟩ = some (lptr b) := hb.cell 0
  obtain ⟨j, hj⟩ := info_lots
  have hq := run_neq_ptr_same (P := Try.prog) ⟨b, 0, none⟩ Try.underlying25 hj
  clear hb hfp hj
  go_enter Try.func37, Try.ntmps37
  go_wp2_with fail
  go_ret
  exact ⟨rfl, rfl⟩
theorem pnoneZ_any (p : Option Addr) (w : World) (h : ∀ a, p = some a → ∃ b, a = ⟨b, 0, none⟩ ∧ Blk w b zeroLot.toList 64) :
    Calls Try.prog 37 #[.pointer p] w fun e w' => e = .returned (.bool true) ∧ w' = w := by
  cases p with
  | none =>
    go_enter Try.func37, Try.ntmps37
    go_wp2_with fail
    go_ret
    exact ⟨rfl, rfl⟩
  | some a =>
    obtain ⟨b, rfl, hb⟩ := h a rfl
    have c0 : w.cell? ⟨b, 0, none⟩ = some (.pointer none) := hb.cell 0
    have hq := run_neq_ptr_nil (P := Try.prog) ⟨b, 0, none⟩ Try.underlying25
    clear h hb
    go_enter Try.func37, Try.ntmps37
    go_wp2_with fail
    go_ret
    exact ⟨rfl, rfl⟩
theorem drop_el {L : List Int} {N : Nat} (h : N < L.length) : (L.drop N).map v64 = v64 L[N] :: (L.drop (N + 1)).map v64 := by
  rw [List.drop_eq_getElem_cons h, List.map_cons]
set_option maxRecDepth 100000 in
set_option maxHeartbeats 1000000 in
theorem pdraw_any (b : Nat) (fp : List Nat) (L : List Int) (N : Nat) (w : World) (h : ProgLot w b fp L N) (hN : N ≤ 2000000000) :
    Calls Try.prog 46 #[lptr b] w (OpDone ProgLot b fp L (N + 1) (v64 (lotAt L N)) w) := by
  have HC := Lib.hid (pnone_any b fp L N w h)
  have hmem := h.mem
  obtain ⟨p, cap, hfp, hb, hg, h1, h0, hmax, hp⟩ := h
  have c1 : w.cell? ⟨b, 1, none⟩ = some (.slice p (L.drop N).length cap) := hb.cell 1
  have c2 : w.cell? ⟨b, 2, none⟩ = some (.int .i64 N) := hb.cell 2
  have f2 : w.frozen? ⟨b, 2, none⟩ = false := hb.free 2
  have hb2 := hb.set 2 (.int .i64 ((N : Int) + 1))
  have hle := hg.le
  have hmx := hg.max
  have ht : Touch fp w (w.setCell ⟨b, 2, none⟩ (.int .i64 ((N : Int) + 1))) := Touch.setCell hmem
  have hkp : ∀ a, p = some a → (w.setCell ⟨b, 2, none⟩ (.int .i64 ((N : Int) + 1))).heap[a.block]? = w.heap[a.block]? := fun a ha => Below.heap_setCell _ _ _ _ (hp a ha).1
  have hAt := hg.at_.blocks hkp
  obtain ⟨w2, hw2⟩ : ∃ x, x = w.setCell ⟨b, 2, none⟩ (.int .i64 ((N : Int) + 1)) := ⟨_, rfl⟩
  have hsz : w2.heap.size = w.heap.size := by rw [hw2]; simp
  rw [← hw2] at hb2 ht hkp hAt
  replace hb2 : Blk w2 b [lptr b, .slice p (L.drop N).length cap, .int .i64 ((N + 1 : Nat) : Int)] 64 := hb2
  have hcast : ((N + 1 : Nat) : Int) = (N : Int) + 1 := by push_cast; rfl
  have d1 : w2.cell? ⟨b, 1, none⟩ = some (.slice p (L.drop N).length cap) := hb2.cell 1
  have f1 : w2.frozen? ⟨b, 1, none⟩ = false := hb2.free 1
  have hml : (L.drop N).length = L.length - N := List.length_drop
  obtain ⟨m, hm⟩ : ∃ m, m = (L.drop N).length := ⟨_, rfl⟩
  have hmN : m = L.length - N := by omega
  rw [← hm] at c1 d1 hle hb2
  by_cases hlt : N < L.length
  · have HL := Lib.hid (lotAt_in hlt)
    have hm0 : 0 < m := by omega
    rw [drop_el hlt] at hAt
    obtain ⟨g, off, rfl, hcell⟩ := hAt.addr (by simp)
    have d3 : (w.setCell ⟨b, 2, none⟩ (.int .i64 ((N : Int) + 1))).cell? ⟨g, off, none⟩ = some (v64 L[N]) := by rw [← hw2]; exact hcell 0 _ rfl
    have hsub := hAt.sub 1 m m (by rw [List.length_cons, List.length_map, List.length_drop]; omega)
    rw [List.drop_take, List.drop_succ_cons, List.drop_zero, List.take_of_length_le (by rw [List.length_map, List.length_drop]; omega)] at hsub
    obtain ⟨q, hq⟩ : ∃ q, q = (if m = 1 then some (⟨g, off, none⟩ : Addr) else (some (⟨g, off, none⟩ : Addr)).map (·.add 1)) := ⟨_, rfl⟩
    have hqg : ∀ a, q = some a → a.block = g := by
      intro a ha; rw [hq] at ha
      split at ha
      · cases ha; rfl
      · cases ha; rfl
    have hqn : q ≠ none := by rw [hq]; split <;> simp
    rw [← hq] at hsub
    have hcut : ∀ w, (Instr.sliceAt 22 (.slice (some ⟨g, off, none⟩) m cap) (some (.int .i64 1)) (some (.int .i64 m)) (some (.int .i64 m))).run Try.prog w = .ok (.slice q (m - 1) (m - 1)) w := fun w => by
      rw [run_cut_lhm 22 3 (some ⟨g, off, none⟩) m cap Try.underlying22 knum1 .i64 .i64 .i64 1 m m (by omega) (by omega) (by omega) (by omega)]
      rw [hq]; rfl
    have hb3 := hb2.drew.set 1 (.slice q (m - 1) (m - 1))
    have HP : Hid (ProgLot (w2.drew.setCell ⟨b, 1, none⟩ (.slice q (m - 1) (m - 1))) b fp L (N + 1)) := by
      have hgb := (hp ⟨g, off, none⟩ rfl)
      have hq2 : (q.map (·.block)).toList = [g] := by
        cases q with
        | none => exact absurd rfl hqn
        | some a => rw [← hqg a rfl]; rfl
      refine ⟨q, m - 1, by rw [hfp, hq2]; rfl, ?_, ⟨fun n hn => hg.nums n (List.mem_of_mem_drop (i := 1) (by rwa [List.drop_drop])), ?_, by rw [List.length_drop]; omega, by omega, fun e => absurd e hqn⟩, h1, h0, hmax, fun a ha => ?_⟩
      · rw [show (L.drop (N + 1)).length = m - 1 by rw [List.length_drop]; omega]; exact hb3
      · exact hsub.blocks fun a ha => Below.heap_setCell _ _ _ _ (by rw [hqg a ha]; exact hgb.1)
      · rw [hqg a ha]; refine ⟨hgb.1, ?_⟩; simp; rw [hsz]; exact hgb.2
    have HT : Hid (Touch fp w (w2.drew.setCell ⟨b, 1, none⟩ (.slice q (m - 1) (m - 1)))) := (ht.drewN 1).setIn hmem _
    obtain ⟨x, hx⟩ : ∃ x, x = L[N] := ⟨_, rfl⟩
    rw [← hx] at HL d3
    have HW2 := Lib.hid hw2
    have HCUT := Lib.hid hcut
    clear hAt hcell hsub hq hqg hqn hb3 hb hb2 hg h1 h0 hp hfp ht hkp hm hml hmN hcast hw2 hmem hlt hcut hx hsz hmax
    have e1 : ((m : Int) == 0) = false := by rw [beq_eq_false_iff_ne]; omega
    have e2 : (0 : Int) < (m : Int) := by omega
    go_enter Try.func46, Try.ntmps46
    go_wp2_with (go_at_call 37; refine HC.out.mono ?_; rintro e w1 ⟨rfl, rfl⟩)
    rw [← HW2.out]
    refine region_tail 16 (by kernel_rfl) (by kernel_rfl) ?_
    simp only [List.take_succ_cons, List.take_zero, List.drop_succ_cons, List.drop_zero]
    have f1' : w2.drew.frozen? ⟨b, 1, none⟩ = false := f1
    repeat (first
      | (go_big_quiet_want; refine quiet_cut3 22 _ _ _ _ rfl _ HCUT.out ?_; simp only [Act.put, List.setIfInBounds_toArray, List.set_cons_zero, List.set_cons_succ, List.getElem_toArray, List.getElem_cons_succ, List.getElem_cons_zero]; go_big_quiet_on)
      | go_big_quiet_step (fail))
    refine wpQuiet_nil ?_
    go_wp2_with fail
    go_ret
    exact ⟨by rw [HL.out]; rfl, fp, HP.out, HT.out, From.refl _ _⟩
  · have HL := Lib.hid (lotAt_out (L := L) (N := N) (by omega))
    obtain rfl : m = 0 := by omega
    have HP : Hid (ProgLot w2 b fp L (N + 1)) := by
      have e1 : L.drop (N + 1) = [] := List.drop_eq_nil_of_le (by omega)
      have e0 : L.drop N = [] := List.drop_eq_nil_of_le (by omega)
      refine ⟨p, cap, hfp, by rw [e1]; exact hb2, ?_, h1, h0, hmax, fun a ha => ⟨(hp a ha).1, by rw [hsz]; exact (hp a ha).2⟩⟩
      rw [e1]
      exact ⟨by simp, At.nil _ _, by simp, hmx, hg.nil⟩
    have HT := Lib.hid ht
    have HW2 := Lib.hid hw2
    clear hAt hb hb2 hg h1 h0 hp hfp ht hkp hm hml hmN hcast hw2 hmem hlt hsz hmax
    go_enter Try.func46, Try.ntmps46
    go_wp2_with (go_at_call 37; refine HC.out.mono ?_; rintro e w1 ⟨rfl, rfl⟩)
    rw [← HW2.out]
    go_ret
    exact ⟨by rw [HL.out]; rfl, fp, HP.out, HT.out, From.refl _ _⟩
theorem pused_any (b : Nat) (fp : List Nat) (L : List Int) (N : Nat) (w : World) (h : ProgLot w b fp L N) :
    Calls Try.prog 19 #[lptr b] w (OpDone ProgLot b fp L N (v64 N) w) := by
  have HC := Lib.hid (pnone_any b fp L N w h)
  have HR := Lib.hid h
  obtain ⟨p, cap, hfp, hb, _⟩ := h
  have c2 : w.cell? ⟨b, 2, none⟩ = some (.int .i64 N) := hb.cell 2
  clear hb hfp
  go_enter Try.func19, Try.ntmps19
  go_wp2_with (go_at_call 37; refine HC.out.mono ?_; rintro e w1 ⟨rfl, rfl⟩)
  go_ret
  exact ⟨rfl, fp, HR.out, Touch.refl _ _, From.refl _ _⟩
set_option maxHeartbeats 400000 in
theorem ppick_any (b : Nat) (fp : List Nat) (L : List Int) (N : Nat) (n : Int) (w : World) (h : ProgLot w b fp L N) (hN : N ≤ 2000000000) (hn : -9223372036854775808 ≤ n ∧ n ≤ 9223372036854775807) :
    Calls Try.prog 38 #[lptr b, .int .i64 n] w (OpDone ProgLot b fp L (N + pickN n) (v64 (pickV L N n)) w) := by
  obtain ⟨hn1, hn2⟩ := hn
  by_cases h2 : n < 2
  · have HV := Lib.hid (show pickV L N n = 0 by unfold pickV; rw [if_pos h2])
    have HP := Lib.hid (show pickN n = 0 by unfold pickN; rw [if_pos h2])
    have HR := Lib.hid h
    clear h
    go_enter Try.func38, Try.ntmps38
    go_wp2_with fail
    go_ret
    exact ⟨by rw [HV.out]; rfl, fp, by rw [HP.out]; exact HR.out, Touch.refl _ _, From.refl _ _⟩
  · have HV := Lib.hid (show pickV L N n = lotAt L N % n by unfold pickV; rw [if_neg h2])
    have HP := Lib.hid (show pickN n = 1 by unfold pickN; rw [if_neg h2])
    have hp : 0 ≤ lotAt L N := by obtain ⟨p, cap, _, _, _, _, h0, _⟩ := h; exact lotAt_pos h0 N
    have hq : lotAt L N ≤ 9223372036854775807 := by obtain ⟨p, cap, _, _, _, _, _, hm, _⟩ := h; exact lotAt_le hm N
    have HD := Lib.hid (pdraw_any b fp L N w h hN)
    clear h
    generalize lotAt L N = x at *
    go_enter Try.func38, Try.ntmps38
    go_wp2_with (go_at_call 46; refine HD.out.mono ?_; rintro e w1 ⟨rfl, fp1, hr1, ht1, hf1⟩; have HR1 := Lib.hid hr1; have HT1 := Lib.hid ht1; have HF1 := Lib.hid hf1; clear hr1 ht1 hf1)
    go_ret
    exact ⟨by rw [HV.out]; rfl, fp1, by rw [HP.out]; exact HR1.out, HT1.out, HF1.out⟩
/-- An order in rising numbers: a row filled from its front. -/
def RisDone (m : Nat) (w : World) (e : Ending) (w' : World) : Prop := ∃ g, e = .returned (.slice (some ⟨g, 0, none⟩) m m) ∧ w.heap.size ≤ g ∧ Blk w' g ((rising m).map v64) 3 ∧ Below w.heap.size w w'
theorem rise_set (m k : Nat) (hk : k < m) : ((rising k).map v64 ++ List.replicate (m - k) (v64 0)).set k (v64 k) = (rising (k + 1)).map v64 ++ List.replicate (m - (k + 1)) (v64 0) := by
  have hl : ((rising k).map v64).length = k := by rw [List.length_map, rising_length]
  rw [List.set_append_right _ _ (by rw [hl]; omega), hl, Nat.sub_self, rising_succ, List.map_append, List.append_assoc, show m - k = (m - (k + 1)) + 1 by omega, List.replicate_succ, List.set_cons_zero]
  rfl
theorem made64 (n : Nat) : (madeCells #[Value.int .i64 0] n).toList = List.replicate n (v64 0) := by
  apply List.ext_getElem?
  intro i
  by_cases hi : i < n
  · simp [madeCells, hi, v64, Nat.mod_one]
  · simp [madeCells, hi]
set_option maxRecDepth 100000 in
set_option maxHeartbeats 1000000 in
theorem prising_any (m : Nat) (w : World) (hm : m ≤ 64) : Calls Try.prog 50 #[.int .i64 m] w (RisDone m w) := by
  have hmk := run_make_row' (P := Try.prog) 22 3 (.int .i64 0) 8 Try.underlying22 knum_info rfl .i64 .i64 m (by omega) (by omega)
  have HB := Lib.hid (Blk.new w (madeCells #[Value.int .i64 0] m) 3)
  have HW := Lib.hid ((Below.refl w.heap.size w).alloc (Nat.le_refl _) (.cells (madeCells #[Value.int .i64 0] m) 3))
  go_enter Try.func50, Try.ntmps50
  go_wp2_with fail
  rw [made64] at HB
  generalize w.alloc (Obj.cells (madeCells #[Value.int IntKind.i64 0] m) 3) = wA at *
  obtain ⟨g, hg⟩ : ∃ g, g = w.heap.size := ⟨_, rfl⟩
  rw [← hg] at HB ⊢
  have HG := Lib.hid hg
  clear hg hmk
  go_loopw [9] (fun c wr => ∃ k : Nat, c = .int .i64 k ∧ k ≤ m ∧ Hid (Blk wr g ((rising k).map v64 ++ List.replicate (m - k) (v64 0)) 3) ∧ Hid (Below w.heap.size w wr)) (fun c _ => m - (intOf c).toNat)
  case atStart => exact ⟨0, rfl, by omega, HB, HW⟩
  case round =>
    obtain ⟨k, rfl, hk, HK, HL⟩ := hrel
    by_cases hlt : k < m
    · have HS := Lib.hid (rise_set m k hlt)
      have c0 : wr.cell? ⟨g, k, none⟩ = some (v64 0) := by
        rw [HK.out.cell, List.getElem?_append_right (by rw [List.length_map, rising_length]; omega), List.length_map, rising_length, Nat.sub_self, List.getElem?_replicate, if_pos (by omega)]
      have f0 : wr.frozen? ⟨g, k, none⟩ = false := HK.out.free k
      go_wp2_with fail
      go_roundw
      case rel => exact ⟨k + 1, by go_num, by omega, Lib.hid (by have := HK.out.set k (v64 k); rw [HS.out] at this; exact this), Lib.hid (HL.out.setCell (by rw [HG.out]; exact Nat.le_refl _) _)⟩
      case measure => simp [intOf]; omega
    · obtain rfl : k = m := by omega
      go_wp2_with fail
      go_ret
      exact ⟨g, rfl, by rw [HG.out]; exact Nat.le_refl _, by have := HK.out; rw [Nat.sub_self, List.replicate_zero, List.append_nil] at this; exact this, HL.out⟩
theorem Blk.blk64 {w : World} {g : Nat} {ys : List Int} {t : TypeId} (h : Blk w g (ys.map v64) t) (i : Nat) (x : Int) : Blk (w.setCell ⟨g, i, none⟩ (v64 x)) g ((ys.set i x).map v64) t := by
  have h1 := h.set i (v64 x)
  rwa [List.map_set]
theorem Blk.el64 {w : World} {g : Nat} {ys : List Int} {t : TypeId} (h : Blk w g (ys.map v64) t) (i : Nat) (hi : i < ys.length) : w.cell? ⟨g, i, none⟩ = some (v64 (ys.getD i 0)) := by
  rw [h.cell, List.getElem?_map, List.getElem?_eq_getElem hi]
  simp [List.getD_eq_getElem?_getD, List.getElem?_eq_getElem hi]
set_option maxRecDepth 100000 in
set_option maxHeartbeats 2000000 in
theorem pshuf_any (b : Nat) (fp : List Nat) (L : List Int) (N : Nat) (m : Nat) (w : World) (h : ProgLot w b fp L N) (hN : N ≤ 1000000000) (hm : m ≤ 100) :
    Calls Try.prog 43 #[lptr b, .int .i64 m] w (ShufDone ProgLot b fp L (N + shufN m) (shuf L N m) w) := by
  have HC := Lib.hid (pnone_any b fp L N w h)
  have HR := Lib.hid h
  have HLOW := Lib.hid h.low
  clear h
  by_cases hout : (m : Int) < 1 ∨ 64 < (m : Int)
  · have HS := Lib.hid (shuf_none (L := L) (N := N) (n := m) hout)
    have hdone : ShufDone ProgLot b fp L (N + shufN m) (shuf L N m) w (.returned (.slice none 0 0)) w :=
      ⟨_, fp, rfl, by rw [HS.out.1]; exact Own64.nil _ _ _, by rw [HS.out.2]; exact HR.out, Touch.refl _ _, From.refl _ _, fun g hg => by cases hg⟩
    have HD := Lib.hid hdone
    clear hdone
    by_cases h1 : (m : Int) < 1
    · go_enter Try.func43, Try.ntmps43
      go_wp2_with (go_at_call 37; refine HC.out.mono ?_; rintro e w1 ⟨rfl, rfl⟩)
      go_ret
      exact HD.out
    · have h2 : 64 < (m : Int) := by omega
      go_enter Try.func43, Try.ntmps43
      go_wp2_with (go_at_call 37; refine HC.out.mono ?_; rintro e w1 ⟨rfl, rfl⟩)
      go_ret
      exact HD.out
  · have h1 : ¬ (m : Int) < 1 := fun e => hout (.inl e)
    have h2 : ¬ 64 < (m : Int) := fun e => hout (.inr e)
    have hm1 : 1 ≤ m := by omega
    have hm2 : m ≤ 64 := by omega
    have HSS := Lib.hid (shuf_some (L := L) (N := N) (m := m) ⟨hm1, hm2⟩)
    clear hout
    go_enter Try.func43, Try.ntmps43
    go_wp2_with (first
      | (go_at_call 37; refine HC.out.mono ?_; rintro e w1 ⟨rfl, rfl⟩)
      | (go_at_call 50; refine (prising_any m _ hm2).mono ?_; rintro e w2 ⟨g, rfl, hg, hk, hb⟩; have HGB := Lib.hid hg; have HK0 := Lib.hid hk; have HB := Lib.hid hb; clear hg hk hb))
    go_loopw [23] (fun c wr => ∃ (t : Nat) (fp2 : List Nat), c = .int .i64 t ∧ t ≤ m - 1 ∧ Hid (Blk wr g ((shufTo L N m t).map v64) 3) ∧ Hid (ProgLot wr b fp2 L (N + t)) ∧ Hid (Touch fp w1 wr) ∧ Hid (From fp fp2 w1) ∧ Hid (g ∉ fp2)) (fun c _ => m - (intOf c).toNat)
    case atStart => exact ⟨0, fp, rfl, by omega, HK0, Lib.hid (HR.out.keep fun i hi => HB.out.block i (HLOW.out i hi)), Lib.hid (Touch.of_below HB.out), Lib.hid (From.refl _ _), Lib.hid (fun hi => by have := HLOW.out g hi; have := HGB.out; omega)⟩
    case round =>
      obtain ⟨t, fp2, rfl, ht, HK, HRT, HT, HF, HG⟩ := hrel
      by_cases hlt2 : t < m - 1
      · have HPK := Lib.hid (show Calls Try.prog 38 #[lptr b, .int .i64 (((m - 1 - t : Nat) : Int) + 1)] wr (OpDone ProgLot b fp2 L (N + t + 1) (v64 (place L N m t : Nat)) wr) by
          have h1 := ppick_any b fp2 L (N + t) ((m - t : Nat) : Int) wr HRT.out (by omega) (by omega)
          rw [pick_place L N m t (by omega), show pickN ((m - t : Nat) : Int) = 1 by unfold pickN; rw [if_neg (by omega)]] at h1
          rw [show ((m - 1 - t : Nat) : Int) + 1 = ((m - t : Nat) : Int) by omega]
          exact h1)
        have hjl := place_lt L N m t (by omega)
        have hsl := shufTo_length L N m t
        have HSL := Lib.hid hsl
        have HNX := Lib.hid (show shufTo L N m (t + 1) = exch (shufTo L N m t) (m - 1 - t) (place L N m t) from rfl)
        generalize place L N m t = j at *
        generalize shufTo L N m t = l at *
        obtain ⟨i, hi⟩ : ∃ i, i = m - 1 - t := ⟨_, rfl⟩
        rw [← hi] at HPK HNX
        have hik : i < m := by omega
        have hjk : j < m := by omega
        have hI : (m : Int) - 1 - (t : Int) = (i : Int) := by omega
        have hlt3 : (t : Int) < (m : Int) - 1 := by omega
        have HI := Lib.hid hi
        clear hsl hi hjl
        go_wp2_with fail
        refine HPK.out.mono ?_
        rintro e w1b ⟨rfl, fp3, hr3, ht3, hf3⟩
        have K3 := Lib.hid (show Blk w1b g (l.map v64) 3 from (ht3.block g HK.out.lt HG.out).trans HK.out)
        have HR3 := Lib.hid hr3
        have HT3 := Lib.hid (HT.out.trans ht3 HF.out)
        have HF3 := Lib.hid (HF.out.trans hf3 HT.out.size)
        have HG3 := Lib.hid (show g ∉ fp3 from fun e => by rcases hf3 g e with h' | h'; exact HG.out h'; have := HK.out.lt; omega)
        have k4 := K3.out.blk64 i (l.getD j 0)
        have ci : w1b.cell? ⟨g, i, none⟩ = some (v64 (l.getD i 0)) := K3.out.el64 i (by rw [HSL.out]; exact hik)
        have cj : w1b.cell? ⟨g, j, none⟩ = some (v64 (l.getD j 0)) := K3.out.el64 j (by rw [HSL.out]; exact hjk)
        have fi : w1b.frozen? ⟨g, i, none⟩ = false := K3.out.free i
        have cj2 : (w1b.setCell ⟨g, i, none⟩ (v64 (l.getD j 0))).cell? ⟨g, j, none⟩ = some (v64 ((l.set i (l.getD j 0)).getD j 0)) := k4.el64 j (by rw [List.length_set, HSL.out]; exact hjk)
        have fj2 : (w1b.setCell ⟨g, i, none⟩ (v64 (l.getD j 0))).frozen? ⟨g, j, none⟩ = false := k4.free j
        have K5 := Lib.hid (k4.blk64 j (l.getD i 0))
        obtain ⟨li, hli⟩ : ∃ x, x = l.getD i 0 := ⟨_, rfl⟩
        obtain ⟨lj, hlj⟩ : ∃ x, x = l.getD j 0 := ⟨_, rfl⟩
        rw [← hlj] at cj cj2 fj2 K5
        rw [← hli] at ci K5
        have HLI := Lib.hid hli
        have HLJ := Lib.hid hlj
        obtain ⟨lx, hlx⟩ : ∃ x, x = (l.set i lj).getD j 0 := ⟨_, rfl⟩
        rw [← hlx] at cj2
        clear hr3 ht3 hf3 k4 hli hlj hlx HPK HK HRT HT HF HG HB HK0 HC HR
        go_wp2_with fail
        go_region
        go_wp2_with fail
        go_roundw
        case rel =>
          refine ⟨t + 1, fp3, by go_num, by omega, Lib.hid ?_, Lib.hid ?_, Lib.hid ?_, HF3, HG3⟩
          · have h1 := K5.out
            rw [exch_eq l i j lj li HLJ.out HLI.out, ← HNX.out] at h1
            exact h1.drew
          · exact HR3.out.keep fun q hq => by
              have hne : q ≠ g := fun e => HG3.out (by rw [← e]; exact hq)
              exact (Below.heap_setCell _ _ _ _ hne).trans (Below.heap_setCell _ _ _ _ hne)
          · exact ((HT3.out.setNew HGB.out _).setNew HGB.out _).drewN 1
        case measure => simp [intOf]; omega
      · obtain rfl : t = m - 1 := by omega
        have hlt3 : ¬ (((m - 1 : Nat) : Int) < (m : Int) - 1) := by omega
        go_wp2_with fail
        go_ret
        refine ⟨_, fp2, rfl, ?_, by rw [HSS.out.2]; exact HRT.out, HT.out, HF.out, fun g' hg' => by cases hg'; exact HG.out⟩
        rw [HSS.out.1]
        have hl := shufTo_length L N m (m - 1)
        have := own64_of_blk (rest := []) (n := m) (cap := m) (by rw [List.append_nil]; exact HK.out) HGB.out (by rw [List.length_map, hl]) rfl (by unfold maxLen; omega) (by intro u hu; rw [List.append_nil] at hu; exact ints64_map _ u hu)
        rw [hl]; exact this
set_option maxRecDepth 100000 in
set_option maxHeartbeats 1000000 in
theorem pnew_any (zs : List Int) (n : Nat) (p : Option Addr) (cap : Nat) (w : World) (hn : zs.length = n) (h : GoodN w zs p cap) :
    Calls Try.prog 9 #[.slice p n cap] w (NewDone ProgLot zs w) := by
  have G := Lib.hid h
  have HN := Lib.hid hn
  have hc : n ≤ cap := by rw [← hn]; exact h.le
  have hcm := h.max
  clear h
  by_cases h1 : 1000 < n
  · have HE := Lib.hid (newErr_long (L := zs) (by omega))
    clear hn
    go_enter Try.func9, Try.ntmps9
    go_wp2_with fail
    go_ret2
    exact ⟨Below.refl _ _, .inr ⟨by rw [HE.out]; omega, by rw [HE.out]; rfl⟩⟩
  · clear hn
    go_enter Try.func9, Try.ntmps9
    go_wp2_with fail
    go_loop [12] (fun i => ∃ k : Nat, i = .int .i64 k ∧ k ≤ n ∧ Hid (∀ x ∈ zs.take k, 0 ≤ x)) (fun i => n - (intOf i).toNat)
    case atStart => exact ⟨0, rfl, by omega, Lib.hid (by simp)⟩
    case round =>
      obtain ⟨k, rfl, hk, HP⟩ := hrel
      by_cases hlt : k < n
      · have hkz : k < zs.length := by rw [HN.out]; exact hlt
        obtain ⟨b, off, rfl, hcell⟩ := G.out.at_.addr (by rw [List.length_map]; omega)
        have c1 : w.cell? ⟨b, off + k, none⟩ = some (v64 zs[k]) := hcell k _ (by rw [List.getElem?_map, List.getElem?_eq_getElem hkz]; rfl)
        have HTK := Lib.hid (show zs.take (k + 1) = zs.take k ++ [zs[k]] from List.take_succ_eq_append_getElem hkz)
        have HEA := Lib.hid (fun h => newErr_arg (L := zs) (by rw [HN.out]; omega) k hkz h)
        obtain ⟨x, hx⟩ : ∃ x, x = zs[k] := ⟨_, rfl⟩
        rw [← hx] at c1 HTK HEA
        clear hcell hkz hx
        by_cases h0 : x < 0
        · have HE := Lib.hid (HEA.out h0)
          clear HEA
          go_wp2_with fail
          go_ret2
          exact ⟨Below.refl _ _, .inr ⟨by rw [HE.out]; omega, by rw [HE.out]; rfl⟩⟩
        · clear HEA
          go_wp2_with fail
          go_round
          case rel =>
            refine ⟨k + 1, by go_num, by omega, Lib.hid fun y hy => ?_⟩
            rw [HTK.out] at hy
            rcases List.mem_append.1 hy with hy | hy
            · exact HP.out y hy
            · rw [List.mem_singleton.1 hy]; omega
          case measure => simp [intOf]; omega
      · obtain rfl : k = n := by omega
        have hp : ∀ x ∈ zs, 0 ≤ x := by
          have := HP.out
          rwa [List.take_of_length_le (by rw [HN.out]; exact Nat.le_refl _)] at this
        have HE := Lib.hid (newErr_zero (L := zs) (by rw [HN.out]; omega) hp)
        have HPP := Lib.hid hp
        clear hp
        go_wp2_with (at_builtin; refine wpList_app64 rfl (.const (.slice none 0 0)) (.tmp 19) 22 rfl w.heap.size 3 Try.underlying22 knum_info _ 0 [] rfl (Own64.nil _ _ _) p k cap (zs.map v64) rfl G.out.at_ (by rw [List.length_map]; exact HN.out) G.out.nil hc (ints64_map _) (by omega) (by unfold maxLen; omega) (by simp) ?_; intro v2 w2 hown2 _ hb2 hs2; simp only [Nat.zero_add, List.nil_append] at hown2; have B2 := Lib.hid hb2; obtain ⟨q2, c2, rfl, hl2, hg2⟩ := hown2.good G.out.nums; have O2 := Lib.hid hown2; have G2 := Lib.hid hg2; clear hown2 hb2 hg2 hl2)
        go_ret2
        refine ⟨B2.out.alloc B2.out.size _, .inl ⟨HE.out, w2.heap.size, w2.heap.size :: (q2.map (·.block)).toList, rfl, ?_, ?_⟩⟩
        · refine ⟨q2, c2, rfl, by have h1 := Blk.new w2 #[lptr w2.heap.size, .slice q2 k c2, .int .i64 0] 64; rw [List.drop_zero, HN.out]; exact h1, by rw [List.drop_zero]; exact G2.out.below ((Below.refl _ w2).alloc (Nat.le_refl _) _), by rw [HN.out]; omega, HPP.out, fun n hn => (G.out.nums n hn).2, ?_⟩
          intro a ha
          have hlt2 := (O2.out.row.lt a.block (by rw [ha]; rfl)).2
          exact ⟨by omega, by simp; omega⟩
        · intro i hi
          rcases List.mem_cons.1 hi with rfl | hi
          · exact B2.out.size
          · cases q2 with
            | none => simp at hi
            | some a => simp at hi; subst hi; exact (O2.out.row.lt _ rfl).1
theorem lotsOK : LotsOK ProgLot where
  ok := {
    lots := fun h => by obtain ⟨p, cap, _, _, _, h1, h0, hm, _⟩ := h; exact ⟨h1, h0, hm⟩
    low := fun h => h.low
    keep := fun h hk => h.keep hk
    new := fun zs n p cap w hn h => pnew_any zs n p cap w hn h
    draw := fun b fp L N w h hN => pdraw_any b fp L N w h (by omega)
    pick := fun b fp L N n w h hN hn => ppick_any b fp L N n w h (by omega) hn
    shuffle := fun b fp L N m w h hN hm => pshuf_any b fp L N m w h hN hm }
  used := { used := fun b fp L N w h _ => pused_any b fp L N w h }
theorem zdraw_any (p : Option Addr) (w : World) (h : ∀ a, p = some a → ∃ b, a = ⟨b, 0, none⟩ ∧ Blk w b zeroLot.toList 64) : Calls Try.prog 46 #[.pointer p] w (StillDone (v64 0) w) := by
  have HC := Lib.hid (pnoneZ_any p w h)
  clear h
  go_enter Try.func46, Try.ntmps46
  go_wp2_with (go_at_call 37; refine HC.out.mono ?_; rintro e w1 ⟨rfl, rfl⟩)
  go_ret
  exact ⟨rfl, Below.refl _ _⟩
theorem zused_any (p : Option Addr) (w : World) (h : ∀ a, p = some a → ∃ b, a = ⟨b, 0, none⟩ ∧ Blk w b zeroLot.toList 64) : Calls Try.prog 19 #[.pointer p] w (StillDone (v64 0) w) := by
  have HC := Lib.hid (pnoneZ_any p w h)
  clear h
  go_enter Try.func19, Try.ntmps19
  go_wp2_with (go_at_call 37; refine HC.out.mono ?_; rintro e w1 ⟨rfl, rfl⟩)
  go_ret
  exact ⟨rfl, Below.refl _ _⟩
theorem zpick_any (p : Option Addr) (n : Int) (w : World) (h : ∀ a, p = some a → ∃ b, a = ⟨b, 0, none⟩ ∧ Blk w b zeroLot.toList 64) (hn : -9223372036854775808 ≤ n ∧ n ≤ 9223372036854775807) : Calls Try.prog 38 #[.pointer p, .int .i64 n] w (StillDone (v64 0) w) := by
  obtain ⟨hn1, hn2⟩ := hn
  have HC := Lib.hid (zdraw_any p w h)
  clear h
  by_cases h2 : n < 2
  · go_enter Try.func38, Try.ntmps38
    go_wp2_with fail
    go_ret
    exact ⟨rfl, Below.refl _ _⟩
  · go_enter Try.func38, Try.ntmps38
    go_wp2_with (go_at_call 46; refine HC.out.mono ?_; rintro e w1 ⟨rfl, hb⟩; have HB := Lib.hid hb; clear hb)
    go_ret
    exact ⟨by first | rfl | simp, HB.out⟩
theorem zshuf_any (p : Option Addr) (n : Int) (w : World) (h : ∀ a, p = some a → ∃ b, a = ⟨b, 0, none⟩ ∧ Blk w b zeroLot.toList 64) (hn : -9223372036854775808 ≤ n ∧ n ≤ 9223372036854775807) : Calls Try.prog 43 #[.pointer p, .int .i64 n] w (NoneDone w) := by
  obtain ⟨hn1, hn2⟩ := hn
  have HC := Lib.hid (pnoneZ_any p w h)
  clear h
  go_enter Try.func43, Try.ntmps43
  go_wp2_with (go_at_call 37; refine HC.out.mono ?_; rintro e w1 ⟨rfl, rfl⟩)
  go_ret
  exact ⟨none, 0, rfl, Below.refl _ _⟩
theorem lotsNone : LotsNone := ⟨zdraw_any, zpick_any, zshuf_any, zused_any⟩
end Go.Proofs.Ytfoomffbjjcjjaa
