/-
  The program's bags of texts do what bags are asked to do.
-/
import Derived.Test.YtnpageceaknofaaBgVT
import Derived.Test.YtnpageceaknofaaBgT
namespace Go.Proofs.Ytnpageceaknofaa
set_option linter.unusedSimpArgs false
set_option linter.unusedVariables false
open Go.RowKit Go.Shelf Sha Rin Bag
theorem ringFp_lowT {w : World} {b m g : Nat} {p : Option Addr} {f : Nat} {cs l : List ByteArray} (h : RingAtT w b m g p f cs l) : ∀ k ∈ ringFp b p, k < w.heap.size := by
  intro k hk
  rcases List.mem_cons.1 hk with rfl | hk
  · exact h.head.lt
  · rcases h.row with ⟨rfl, _⟩ | hp
    · simp at hk
    · rw [hp] at hk; simp at hk; subst hk; exact (h.cells hp).1.lt
theorem heldBagT : Held ProgBagT := by
  refine ⟨fun {w b fp s} h => ?_, fun {w w' b fp s} h hk => ?_⟩
  · obtain ⟨p, g, f, cs, rfl, h, _⟩ := h; exact ringFp_lowT h
  · obtain ⟨p, g, f, cs, rfl, h, hf⟩ := h
    exact ⟨p, g, f, cs, rfl, ⟨(hk b (ringFp_mem b p)).trans h.head, h.row, fun hp => ⟨(hk g (by rw [hp]; simp [ringFp])).trans (h.cells hp).1, (h.cells hp).2⟩, h.ring, h.most, h.room⟩, hf⟩
theorem okBagT {w : World} {b : Nat} {fp : List Nat} {m : Nat} {l : List ByteArray} (h : ProgBagT w b fp (m, l)) : l.length ≤ m ∧ m ≤ 2000 ∧ ∀ x ∈ l, textK.fit x := by
  obtain ⟨p, g, f, cs, rfl, h, hf⟩ := h
  exact ⟨Nat.le_trans h.ring.le h.most, h.room, hf⟩
set_option maxHeartbeats 1000000 in
theorem lenT_any (b : Nat) (fp : List Nat) (m : Nat) (l : List ByteArray) (w : World) (h : ProgBagT w b fp (m, l)) : Calls Try.prog 26 #[optr b] w (QDone (v64 l.length) w) := by
  obtain ⟨p, g, f, cs, rfl, h, hf⟩ := h
  have HC := Lib.hid (noneT_any b [] w (h.head.cell 0))
  have k4 : w.cell? ⟨b, 4, none⟩ = some (.int .i64 l.length) := h.head.cell 4
  clear h hf
  go_enter Try.func26, Try.ntmps26
  go_wp2_with (go_at_call 40; refine HC.out.mono ?_; rintro e w1 ⟨rfl, rfl⟩)
  go_ret
  exact ⟨rfl, 0, rfl⟩
set_option maxHeartbeats 1000000 in
theorem roomT_any (b : Nat) (fp : List Nat) (m : Nat) (l : List ByteArray) (w : World) (h : ProgBagT w b fp (m, l)) : Calls Try.prog 22 #[optr b] w (QDone (v64 ((m : Int) - (l.length : Int))) w) := by
  obtain ⟨hl, hm, _⟩ := okBagT h
  obtain ⟨p, g, f, cs, rfl, h, hf⟩ := h
  have HC := Lib.hid (noneT_any b [] w (h.head.cell 0))
  have k1 : w.cell? ⟨b, 1, none⟩ = some (.int .i64 m) := h.head.cell 1
  have k4 : w.cell? ⟨b, 4, none⟩ = some (.int .i64 l.length) := h.head.cell 4
  clear h hf
  go_enter Try.func22, Try.ntmps22
  go_wp2_with (go_at_call 40; refine HC.out.mono ?_; rintro e w1 ⟨rfl, rfl⟩)
  go_quiet (fail)
  go_wp2_with fail
  go_ret
  exact ⟨rfl, _, rfl⟩
set_option maxHeartbeats 1000000 in
theorem batT_any (b : Nat) (fp : List Nat) (m : Nat) (l : List ByteArray) (i : Int) (w : World) (h : ProgBagT w b fp (m, l)) (hi : -9223372036854775808 ≤ i ∧ i ≤ 9223372036854775807) :
    Calls Try.prog 42 #[optr b, v64 i] w fun e w' => e = .returned (.tuple #[Value.string (atV ByteArray.empty l i), v64 (atE l i)]) ∧ ∃ k, w' = w.drewN k := by
  obtain ⟨hl, hm, _⟩ := okBagT h
  obtain ⟨p, g, f, cs, rfl, h, hf⟩ := h
  have HC := Lib.hid (noneT_any b [] w (h.head.cell 0))
  have k2 : w.cell? ⟨b, 2, none⟩ = some (.slice p cs.length cs.length) := h.head.cell 2
  have k3 : w.cell? ⟨b, 3, none⟩ = some (.int .i64 f) := h.head.cell 3
  have k4 : w.cell? ⟨b, 4, none⟩ = some (.int .i64 l.length) := h.head.cell 4
  by_cases hin : 0 ≤ i ∧ i < l.length
  · obtain ⟨hi0, hi1⟩ := hin
    have HA := Lib.hid (atT_any b g p cs.length f l.length l i w k2 k3 k4 (by rcases h.row with h | h; exact .inl h; exact .inr h) cs rfl rfl h.ring (by have := h.most; omega) (fun j x hj => h.get j x hj) hi0 (by omega))
    have HV := Lib.hid (show atV ByteArray.empty l i = l.getD i.toNat ByteArray.empty from if_pos ⟨hi0, hi1⟩)
    have HE := Lib.hid (show atE l i = 0 from if_pos ⟨hi0, hi1⟩)
    have hn1 : ¬ i < 0 := by omega
    have hn2 : ¬ (l.length : Int) ≤ i := by omega
    obtain ⟨y, hy⟩ : ∃ y, y = l.getD i.toNat ByteArray.empty := ⟨_, rfl⟩
    rw [← hy] at HA HV
    clear h hf k2 k3 hy
    go_enter Try.func42, Try.ntmps42
    go_wp2_with (first
      | (go_at_call 40; refine HC.out.mono ?_; rintro e w1 ⟨rfl, rfl⟩)
      | (go_at_call 50; refine HA.out.mono ?_; rintro e w1 ⟨rfl, nq, rfl⟩))
    go_ret2
    exact ⟨by rw [HV.out, HE.out]; rfl, _, rfl⟩
  · have HV := Lib.hid (show atV ByteArray.empty l i = ByteArray.empty from if_neg hin)
    have HE := Lib.hid (show atE l i = 5 from if_neg hin)
    clear h hf k2 k3
    by_cases hn1 : i < 0
    · go_enter Try.func42, Try.ntmps42
      go_wp2_with (go_at_call 40; refine HC.out.mono ?_; rintro e w1 ⟨rfl, rfl⟩)
      go_ret2
      exact ⟨by rw [HV.out, HE.out]; rfl, 0, rfl⟩
    · have hn2 : (l.length : Int) ≤ i := by omega
      clear hin
      go_enter Try.func42, Try.ntmps42
      go_wp2_with (go_at_call 40; refine HC.out.mono ?_; rintro e w1 ⟨rfl, rfl⟩)
      go_ret2
      exact ⟨by rw [HV.out, HE.out]; rfl, 0, rfl⟩
set_option maxHeartbeats 1000000 in
theorem newT_any (n : Int) (w : World) (hn : -9223372036854775808 ≤ n ∧ n ≤ 9223372036854775807) : Calls Try.prog 39 #[v64 n] w (BNewDone ProgBagT n w) := by
  by_cases hin : 0 ≤ n ∧ n ≤ 2000
  · obtain ⟨hn0, hn2⟩ := hin
    have HE := Lib.hid (newE_in ⟨hn0, hn2⟩)
    obtain ⟨k, rfl⟩ := Int.eq_ofNat_of_zero_le hn0
    have hm := madeT_any k none 0 0 0 w
    rw [show (((0 : Nat) : Int)) = 0 from rfl] at hm
    have HM := Lib.hid hm
    have h1 : ¬ (k : Int) < 0 := by omega
    have h2 : ¬ 2000 < (k : Int) := by omega
    clear hm
    go_enter Try.func39, Try.ntmps39
    go_wp2_with (go_at_call 48; refine HM.out.mono ?_; rintro e w1 ⟨B, rfl, hB, hk, hb⟩; have HB := Lib.hid hB; have HK := Lib.hid hk; have HW := Lib.hid hb; clear hB hk hb)
    go_ret2
    refine ⟨HW.out, .inl ⟨HE.out, B, ringFp B none, rfl, ⟨none, 0, 0, [], rfl, ⟨?_, .inl ⟨rfl, rfl⟩, (fun h => by cases h), Is.nil, by simp, by simp only [Int.toNat_natCast]; omega⟩, by simp⟩, fun q hq => ?_⟩⟩
    · simp only [Int.toNat_natCast]; exact HK.out
    · simp [ringFp] at hq; rw [hq]; exact HB.out
  · have HE := Lib.hid (newE_out (n := n) (by omega))
    by_cases h1 : n < 0
    · go_enter Try.func39, Try.ntmps39
      go_wp2_with fail
      go_ret2
      exact ⟨Below.refl _ _, .inr ⟨HE.out, rfl⟩⟩
    · have h2 : 2000 < n := by omega
      clear hin
      go_enter Try.func39, Try.ntmps39
      go_wp2_with fail
      go_ret2
      exact ⟨Below.refl _ _, .inr ⟨HE.out, rfl⟩⟩
set_option maxRecDepth 100000 in
set_option maxHeartbeats 1000000 in
theorem takeT_any (b : Nat) (fp : List Nat) (m : Nat) (l : List ByteArray) (i : Int) (w : World) (h : ProgBagT w b fp (m, l)) (hi : -9223372036854775808 ≤ i ∧ i ≤ 9223372036854775807) :
    Calls Try.prog 25 #[optr b, v64 i] w (ODone ProgBagT b fp (m, takeL l i) (.tuple #[Value.string (atV ByteArray.empty l i), v64 (atE l i)]) w) := by
  have HA := Lib.hid (batT_any b fp m l i w h hi)
  by_cases hin : 0 ≤ i ∧ i < l.length
  · have HE := Lib.hid (show atE l i = 0 from if_pos hin)
    have HT := Lib.hid (show takeL l i = l.take i.toNat ++ l.drop (i.toNat + 1) from if_pos hin)
    obtain ⟨p, g, f, cs, rfl, h, hf⟩ := h
    obtain ⟨k, rfl⟩ := Int.eq_ofNat_of_zero_le hin.1
    have hk : k < l.length := by omega
    have HD := Lib.hid (fun W (hW : ∃ d, W = w.drewN d) => dropT_any b m g k p f cs l W (by
      obtain ⟨d, rfl⟩ := hW
      exact ⟨h.head, h.row, h.cells, h.ring, h.most, h.room⟩) hk)
    have HF := Lib.hid hf
    generalize atV ByteArray.empty l (k : Int) = y at *
    rw [HE.out] at HA ⊢
    clear h hf hin hk
    go_enter Try.func25, Try.ntmps25
    go_wp2_with (first
      | (go_at_call 42; refine HA.out.mono ?_; rintro e w1 ⟨rfl, nq, rfl⟩)
      | (go_at_call 43; refine (HD.out _ ⟨nq, rfl⟩).mono ?_; rintro e w2 ⟨⟨v, rfl⟩, hr, ht⟩; have HR := Lib.hid hr; have HTO := Lib.hid ht; clear hr ht))
    go_ret2
    refine ⟨rfl, ringFp b p, ⟨p, g, (f + 1) % cs.length, gone ByteArray.empty cs f l (k + 1), rfl, ?_, ?_⟩, ?_, From.refl _ _⟩
    · rw [HT.out, Int.toNat_natCast]; exact HR.out
    · intro x hx; exact HF.out x (takeL_mem hx)
    · exact (((Touch.refl _ w).drewN nq).trans HTO.out (From.refl _ _))
  · have HE := Lib.hid (show atE l i = 5 from if_neg hin)
    have HT := Lib.hid (show takeL l i = l from if_neg hin)
    have HH := Lib.hid h
    generalize atV ByteArray.empty l i = y at *
    rw [HE.out] at HA ⊢
    clear h hin
    go_enter Try.func25, Try.ntmps25
    go_wp2_with (go_at_call 42; refine HA.out.mono ?_; rintro e w1 ⟨rfl, nq, rfl⟩)
    go_ret2
    rw [HT.out]
    exact ODone.same heldBagT HH.out (below_drewN (Below.refl _ w) nq)
set_option maxRecDepth 100000 in
set_option maxHeartbeats 1000000 in
theorem putT_any (b : Nat) (fp : List Nat) (m : Nat) (l : List ByteArray) (x : ByteArray) (w : World) (h : ProgBagT w b fp (m, l)) (hx : textK.fit x) :
    Calls Try.prog 28 #[optr b, Value.string x] w (ODone ProgBagT b fp (m, putL m l x) (v64 (putE m l)) w) := by
  obtain ⟨hl, hm, _⟩ := okBagT h
  have HRM := Lib.hid (roomT_any b fp m l w h)
  have HH := Lib.hid h
  obtain ⟨p, g, f, cs, rfl, h, hf⟩ := h
  have HC := Lib.hid (noneT_any b [] w (h.head.cell 0))
  have k1 : w.cell? ⟨b, 1, none⟩ = some (.int .i64 m) := h.head.cell 1
  by_cases hlt : l.length < m
  · have HP := Lib.hid (put_room (x := x) hlt)
    have HPU := Lib.hid (fun W (hW : ∃ d, W = w.drewN d) => pushT_any b m g p f l.length cs l x W rfl (by
      obtain ⟨d, rfl⟩ := hW
      exact ⟨h.head, h.row, h.cells, h.ring, h.most, h.room⟩) hlt)
    have HF := Lib.hid hf
    have HX := Lib.hid hx
    have hne : ((m : Int) - (l.length : Int) == 0) = false := by rw [beq_eq_false_iff_ne]; omega
    clear h hf hx
    go_enter Try.func28, Try.ntmps28
    go_wp2_with (first
      | (go_at_call 40; refine HC.out.mono ?_; rintro e w1 ⟨rfl, rfl⟩)
      | (go_at_call 22; refine HRM.out.mono ?_; rintro e w1 ⟨rfl, nq, rfl⟩))
    have k1' : (w1.drewN nq).cell? ⟨b, 1, none⟩ = some (.int .i64 m) := k1
    go_region_held3 (fun w' => w'.cell? ⟨b, 1, none⟩ = some (.int .i64 m)) (go_keep)
      (first | (go_at_call 44; refine (HPU.out _ ⟨nq + 1, World.drewN_drewN w1 nq 1⟩).mono ?_; rintro e w2 ⟨⟨v, rfl⟩, p', g', f', cs', hr, ht, hfr⟩; have e1 : w2.cell? ⟨b, 1, none⟩ = some (.int .i64 m) := hr.head.cell 1; have HR := Lib.hid hr; have HTO := Lib.hid ht; have HFR := Lib.hid hfr; clear hr ht hfr))
    go_wp2_with fail
    go_ret
    rw [HP.out.1, HP.out.2]
    refine ⟨rfl, ringFp b p', ⟨p', g', f', cs', rfl, HR.out, ?_⟩, ?_, ?_⟩
    · intro y hy
      rcases List.mem_append.1 hy with hy | hy
      · exact HF.out y hy
      · rw [List.mem_singleton.1 hy]; exact HX.out
    · exact ((Touch.refl _ w1).drewN (nq + 1)).trans HTO.out (From.refl _ _)
    · exact HFR.out
  · have HP := Lib.hid (put_full (x := x) (m := m) (l := l) (by omega))
    have hne : ((m : Int) - (l.length : Int) == 0) = true := by rw [beq_iff_eq]; omega
    clear h hf hx
    go_enter Try.func28, Try.ntmps28
    go_wp2_with (first
      | (go_at_call 40; refine HC.out.mono ?_; rintro e w1 ⟨rfl, rfl⟩)
      | (go_at_call 22; refine HRM.out.mono ?_; rintro e w1 ⟨rfl, nq, rfl⟩))
    go_ret
    rw [HP.out.1, HP.out.2]
    exact ODone.same heldBagT HH.out (below_drewN (Below.refl _ _) _)
/-- A list laid anew, as the caller owns it. -/
theorem ownT_blk {w : World} {B G : Nat} {l : List ByteArray} (hb : Blk w G (l.map (Value.string)) 9) (hB : B ≤ G) (hm : l.length ≤ 2000) : ownT w B (.slice (some ⟨G, 0, none⟩) l.length l.length) l := by
  refine ⟨_, _, rfl, ⟨.inr ⟨G, 0, rfl, fun i v hv => ?_⟩, Nat.le_refl _, by first | (unfold maxLen; omega) | omega, fun h => (by cases h)⟩, fun a ha => by cases ha; exact hB⟩
  rw [Nat.zero_add, hb.cell]; exact hv
set_option maxRecDepth 100000 in
set_option maxHeartbeats 1000000 in
theorem allT_any (b : Nat) (fp : List Nat) (m : Nat) (l : List ByteArray) (w : World) (h : ProgBagT w b fp (m, l)) : Calls Try.prog 24 #[optr b] w (AllDone textK ownT ProgBagT b fp m l w) := by
  obtain ⟨hl, hm, _⟩ := okBagT h
  have HH := Lib.hid h
  obtain ⟨p, g, f, cs, rfl, h, hf⟩ := h
  have HLOW := Lib.hid (ringFp_lowT h)
  have HC := Lib.hid (noneT_any b [] w (h.head.cell 0))
  have k2 : w.cell? ⟨b, 2, none⟩ = some (.slice p cs.length cs.length) := h.head.cell 2
  have k3 : w.cell? ⟨b, 3, none⟩ = some (.int .i64 f) := h.head.cell 3
  have k4 : w.cell? ⟨b, 4, none⟩ = some (.int .i64 l.length) := h.head.cell 4
  have hL := listT_any b g p cs.length f l.length l.length l w.drew k2 k3 k4 (by rcases h.row with h | h; exact .inl h; exact .inr h) cs rfl rfl h.ring (by have := h.most; omega) (fun j x hj => h.get j x hj) (Nat.le_refl _) (by omega)
  have HL := Lib.hid hL
  obtain ⟨n, hn⟩ : ∃ n, n = l.length := ⟨_, rfl⟩
  rw [← hn] at k4 HL
  have HN := Lib.hid hn
  clear h hf k2 k3 hL hn
  go_enter Try.func24, Try.ntmps24
  go_wp2_with (go_at_call 40; refine HC.out.mono ?_; rintro e w1 ⟨rfl, rfl⟩)
  go_region_held3 (fun w' => w'.cell? ⟨b, 4, none⟩ = some (.int .i64 n)) (go_keep)
    (first | (go_at_call 41; refine HL.out.mono ?_; rintro e w2 ⟨G, rfl, hG, hk, hb⟩; have e4 := (hb.cell (World.block_lt_of_cell? w1.drew _ k4)).trans k4; have HG := Lib.hid hG; have HK := Lib.hid hk; have HB := Lib.hid hb; clear hG hk hb))
  go_wp2_with fail
  go_ret
  have hk := HK.out
  rw [HN.out, Nat.sub_self, List.replicate_zero, List.append_nil] at hk
  have hB : Below w1.heap.size w1 w2 := (Below.drew (Below.refl _ w1)).trans HB.out
  refine ⟨_, ringFp b p, rfl, ?_, heldBagT.on HH.out hB, Touch.of_below hB, From.refl _ _, fun q hq => ?_⟩
  · rw [HN.out]; exact ownT_blk hk HG.out (by omega)
  · cases hq
    intro hq
    have h1 := HLOW.out _ hq
    have h2 := HG.out
    rw [show w1.drew.heap.size = w1.heap.size from rfl] at h2
    simp only at h1
    omega
/-- The whole of what a bag is asked. -/
theorem bagOKT : BagOK textK 39 28 25 42 ProgBagT where
  held := heldBagT
  ok := okBagT
  new := newT_any
  put := putT_any
  take := takeT_any
  at_ := fun b fp m l i w h hi => (batT_any b fp m l i w h hi).mono fun e w' ⟨he, k, hk⟩ => by
    subst he hk; exact ODone.same heldBagT h (below_drewN (Below.refl _ w) k)
theorem bagMoreT : BagMore textK ownT 26 22 24 ProgBagT := ⟨lenT_any, roomT_any, allT_any⟩
end Go.Proofs.Ytnpageceaknofaa
