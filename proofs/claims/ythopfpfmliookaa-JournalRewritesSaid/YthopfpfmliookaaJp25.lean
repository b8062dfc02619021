/-
  The program's journals: records on their way to a disk.
  The program's journals: the steps of Append and of Rewrite, one behind the other.
-/
import Derived.Test.YthopfpfmliookaaJp24
namespace Go.Proofs.Ythopfpfmliookaa
section
set_option linter.unusedSimpArgs false
set_option linter.unusedVariables false
open Go.RowKit Go.Shelf Sha Dsk Jrn
theorem join_two (l : Rs) : (Frm.join l).2 = Frm.joinE l := by unfold Frm.join; split <;> rename_i h <;> simp [h]
theorem join_one {l : Rs} (h : Frm.joinE l = 0) : (Frm.join l).1 = Frm.frs l := by unfold Frm.join; rw [if_pos h]
/-- A draft behind join. -/
structure Joined (w W : World) (g : Nat) (a rv : Value) (zs : List Int) (q : Option Addr) (m cap : Nat) : Prop where
  blk : Blk W g [a, rv, .slice q m cap] 59
  len : zs.length = m
  at_ : At W q (zs.map v8)
  le : m ≤ cap
  max : cap ≤ 9223372036854775807
  nil : q = none → cap = 0
  new : zs ≠ [] → ∀ a, q = some a → w.heap.size ≤ a.block
  touch : Touch [g] w W
set_option maxRecDepth 100000 in
set_option maxHeartbeats 1000000 in
theorem pjoin_any (g : Nat) (a : Value) (l : Rs) (p : Option Addr) (n c : Nat) (b0 : Value) (w : World) (hb : Blk w g [a, .slice p n c, b0] 59) (h : Recs w p n c l) (hn : n ≤ 2000000) :
    Calls Try.prog 27 #[.pointer (some ⟨g, 0, none⟩)] w fun e w' => e = .returned (i64v (Frm.joinE l)) ∧ ∃ q m cap, Joined w w' g a (.slice p n c) (Frm.join l).1 q m cap := by
  have c1 : w.cell? ⟨g, 1, none⟩ = some (.slice p n c) := hb.cell 1
  have HB := Lib.hid hb
  have HJ := Lib.hid (fjoins_any l p n c w h hn)
  have hj2 := Lib.hid (join_two l)
  clear hb h hn
  go_enter Try.func27, Try.ntmps27
  go_wp2_with fail
  refine HJ.out.mono ?_
  rintro e w1 ⟨v, rfl, ho, hbl⟩
  obtain ⟨q, cap, rfl, h1, h2, hA, hx, hnil⟩ := own_at ho.row
  have hlt := ho.row.lt
  have HB1 := Lib.hid (HB.out.below hbl HB.out.lt)
  have z2 : w1.frozen? ⟨g, 2, none⟩ = false := HB1.out.free 2
  have e2 : w1.cell? ⟨g, 2, none⟩ = some b0 := HB1.out.cell 2
  have HA := Lib.hid hA
  have HLT := Lib.hid hlt
  have HBL := Lib.hid hbl
  rw [hj2.out]
  obtain ⟨m, hm⟩ : ∃ m, m = (Frm.join l).1.length := ⟨_, rfl⟩
  rw [← hm] at HLT h1 ⊢
  have HM := Lib.hid hm
  obtain ⟨z, hz⟩ : ∃ z, z = Frm.joinE l := ⟨_, rfl⟩
  rw [← hz]
  have HZ := Lib.hid hz
  clear ho hA hlt hbl hj2 hx HJ hm hz c1
  go_wp2_with fail
  go_ret
  refine ⟨by rw [← HZ.out]; rfl, q, m, cap, HB1.out.set 2 _, HM.out.symm, ?_, h1, by unfold maxLen at h2; omega, hnil, fun hne a ha => (HLT.out a.block (by rw [ha]; rfl)).1, ?_⟩
  · refine HA.out.blocks fun a ha => Below.heap_setCell _ _ _ _ fun e => ?_
    have h3 := (HLT.out a.block (by rw [ha]; rfl)).1
    have h4 := HB.out.lt
    have e' : a.block = g := e
    omega
  · exact (Touch.of_below HBL.out).setIn (by simp) _
theorem Joined.good {w W : World} {g m cap : Nat} {a rv : Value} {zs : List Int} {q : Option Addr} (h : Joined w W g a rv zs q m cap) (hb : ∀ n ∈ zs, IsByte n) : GoodC W zs q cap := ⟨hb, h.at_, by rw [h.len]; exact h.le, h.max, h.nil⟩
theorem Joined.apart {w W : World} {g m cap : Nat} {a rv : Value} {zs : List Int} {q : Option Addr} {fd : List Nat} (h : Joined w W g a rv zs q m cap) (hl : ∀ k ∈ fd, k < w.heap.size) : ApartC zs q fd := fun hz a ha hm => by
  have h1 := h.new hz a ha
  have h2 := hl _ hm
  omega
set_option maxRecDepth 100000 in
set_option maxHeartbeats 1000000 in
theorem pjlay_any (g bd : Nat) (fd : List Nat) (s : DState) (rv : Value) (zs : List Int) (m : Nat) (q : Option Addr) (cap : Nat) (w : World) (hb : Blk w g [optr bd, rv, .slice q m cap] 59) (hd : ProgDisk w bd fd s) (hs : s.steps ≤ 1000000000) (hm : zs.length = m) (hm2 : m ≤ 1000000000) (hz : GoodC w zs q cap) (hap : ApartC zs q fd) :
    Calls Try.prog 28 #[.pointer (some ⟨g, 0, none⟩)] w (ODone ProgDisk bd fd (appS s zs) (i64v (appE s m)) w) := by
  have c0 : w.cell? ⟨g, 0, none⟩ = some (optr bd) := hb.cell 0
  have c2 : w.cell? ⟨g, 2, none⟩ = some (.slice q m cap) := hb.cell 2
  have HD := Lib.hid (fun k => pappend_any bd fd s zs m q cap (w.drewN k) (progHeldD.on hd (below_drewN (Below.refl _ _) k)) hs hm hm2 (hz.below (below_drewN (Below.refl _ _) k)) hap)
  clear hb hd hs hm hz hap
  go_enter Try.func28, Try.ntmps28
  go_wp2_with fail
  refine region_quiet_tail 8 (by kernel_rfl) (by kernel_rfl) ?_
  simp only [List.take_succ_cons, List.take_zero, List.drop_succ_cons, List.drop_zero]
  repeat (go_big_quiet_step (fail))
  refine wpQuiet_nil ?_
  rintro _ ⟨nq, rfl⟩
  go_wp2_with fail
  refine (HD.out nq).mono ?_
  rintro e w1 ⟨rfl, fd', hr, ht, hf⟩
  have HR := Lib.hid hr
  have HT := Lib.hid (show Touch fd w w1 from ⟨ht.os, ht.tape, ht.output, ht.size, ht.block⟩)
  have HF := Lib.hid (show From fd fd' w from hf)
  obtain ⟨z, hz⟩ : ∃ z, z = appE s m := ⟨_, rfl⟩
  rw [← hz]
  have HZ := Lib.hid hz
  clear hr ht hf HD hz
  go_wp2_with fail
  go_ret
  exact ⟨by rw [← HZ.out]; rfl, fd', HR.out, HT.out, HF.out⟩
set_option maxRecDepth 100000 in
set_option maxHeartbeats 1000000 in
theorem pjlayN_any (g bd : Nat) (fd : List Nat) (s : DState) (rv : Value) (zs : List Int) (m : Nat) (q : Option Addr) (cap : Nat) (w : World) (hb : Blk w g [optr bd, rv, .slice q m cap] 59) (hd : ProgDisk w bd fd s) (hs : s.steps ≤ 1000000000) (hm : zs.length = m) (hm2 : m ≤ 1000000000) (hz : GoodC w zs q cap) (hap : ApartC zs q fd) :
    Calls Try.prog 31 #[.pointer (some ⟨g, 0, none⟩)] w (ODone ProgDisk bd fd (nextS s zs) (i64v (appE s m)) w) := by
  have c0 : w.cell? ⟨g, 0, none⟩ = some (optr bd) := hb.cell 0
  have c2 : w.cell? ⟨g, 2, none⟩ = some (.slice q m cap) := hb.cell 2
  have HD := Lib.hid (fun k => pnext_any bd fd s zs m q cap (w.drewN k) (progHeldD.on hd (below_drewN (Below.refl _ _) k)) hs hm hm2 (hz.below (below_drewN (Below.refl _ _) k)) hap)
  clear hb hd hs hm hz hap
  go_enter Try.func31, Try.ntmps31
  go_wp2_with fail
  refine region_quiet_tail 8 (by kernel_rfl) (by kernel_rfl) ?_
  simp only [List.take_succ_cons, List.take_zero, List.drop_succ_cons, List.drop_zero]
  repeat (go_big_quiet_step (fail))
  refine wpQuiet_nil ?_
  rintro _ ⟨nq, rfl⟩
  go_wp2_with fail
  refine (HD.out nq).mono ?_
  rintro e w1 ⟨rfl, fd', hr, ht, hf⟩
  have HR := Lib.hid hr
  have HT := Lib.hid (show Touch fd w w1 from ⟨ht.os, ht.tape, ht.output, ht.size, ht.block⟩)
  have HF := Lib.hid (show From fd fd' w from hf)
  obtain ⟨z, hz⟩ : ∃ z, z = appE s m := ⟨_, rfl⟩
  rw [← hz]
  have HZ := Lib.hid hz
  clear hr ht hf HD hz
  go_wp2_with fail
  go_ret
  exact ⟨by rw [← HZ.out]; rfl, fd', HR.out, HT.out, HF.out⟩
end
section
set_option linter.unusedSimpArgs false
set_option linter.unusedVariables false
open Go.RowKit Go.Shelf Sha Dsk Jrn
/-- A draft, made since w, and a row of steps. -/
structure Draft (w w3 : World) (g gs bd : Nat) (p : Option Addr) (n c : Nat) (l : Rs) (fs : List StepV) : Prop where
  below : Below w.heap.size w w3
  g_new : w.heap.size ≤ g
  gs_new : w.heap.size ≤ gs
  ne : gs ≠ g
  blk : Blk w3 g [optr bd, .slice p n c, .slice none 0 0] 59
  recs : Recs w3 p n c l
  few : n ≤ 2000000
  steps : Blk w3 gs (fs.map stepCell) 32
theorem touch_new {fd : List Nat} {w w3 W : World} {g : Nat} (hB : Below w.heap.size w w3) (hg : w.heap.size ≤ g) (ht : Touch (g :: fd) w3 W) : Touch fd w W :=
  ⟨ht.os.trans hB.os, ht.tape.trans hB.tape, ht.output.trans hB.output, Nat.le_trans hB.size ht.size, fun k hk hn => (ht.block k (Nat.lt_of_lt_of_le hk hB.size) (by simp; exact ⟨by omega, hn⟩)).trans (hB.block k hk)⟩
theorem touch_more {fd gd : List Nat} {a b : World} (h : Touch fd a b) (hs : ∀ k ∈ fd, k ∈ gd) : Touch gd a b := ⟨h.os, h.tape, h.output, h.size, fun k hk hn => h.block k hk fun e => hn (hs k e)⟩
theorem from_old {fd fd' : List Nat} {a b : World} (h : From fd fd' b) (hs : a.heap.size ≤ b.heap.size) : From fd fd' a := fun k hk => (h k hk).imp id (Nat.le_trans hs)
section
variable {w w3 : World} {g gs bd n c : Nat} {p : Option Addr} {l : Rs} {fs : List StepV} {fd : List Nat} {s : DState}
theorem blk_at {w : World} {g : Nat} {cs : List Value} {t : TypeId} (h : Blk w g cs t) : At w (some ⟨g, 0, none⟩) cs := .inr ⟨g, 0, rfl, fun i v hi => by rw [Nat.zero_add, h.cell i, hi]⟩
theorem Draft.at_ (D : Draft w w3 g gs bd p n c l fs) (hl : ∀ k ∈ fd, k < w.heap.size) {W : World} (ht : Touch (g :: fd) w3 W) : At W (some ⟨gs, 0, none⟩) (fs.map stepCell) := by
  refine blk_at (t := 32) ((ht.block gs D.steps.lt fun e => ?_).trans D.steps)
  rcases List.mem_cons.1 e with e | e
  · exact D.ne e
  · have := hl _ e; have := D.gs_new; omega
theorem Draft.disk (D : Draft w w3 g gs bd p n c l fs) (hd : ProgDisk w bd fd s) {W : World} (ht : Touch [g] w3 W) : ProgDisk W bd fd s := by
  refine progHeldD.keep hd fun k hk => ?_
  have h1 := progHeldD.low hd k hk
  have h2 := D.g_new
  exact (ht.block k (Nat.lt_of_lt_of_le h1 D.below.size) (by simp; omega)).trans (D.below.block k h1)
theorem Draft.bytes (D : Draft w w3 g gs bd p n c l fs) : ∀ n ∈ Frm.frs l, IsByte n := Frm.frs_bytes fun b hb => D.recs.bytes b hb
/-- Behind a call of a draft's on the disk. -/
theorem Draft.done (D : Draft w w3 g gs bd p n c l fs) {q : Option Addr} {m cap : Nat} {rv : Value} {W W' : World} {fd' : List Nat} (J : Joined w3 W g (optr bd) rv (Frm.frs l) q m cap) (ht : Touch fd W W') (hf : From fd fd' W) : Touch (g :: fd) w3 W' ∧ From fd fd' w :=
  ⟨(touch_more J.touch (by simp)).trans (touch_more ht (by simp; intro k hk; exact .inr hk)) (From.refl _ _), from_old hf (Nat.le_trans D.below.size J.touch.size)⟩
def LayQ (w : World) (bd : Nat) (fd : List Nat) (s : DState) (l : Rs) (z : Int) (W : World) : Prop :=
  z = (if Frm.joinE l = 0 then appE s (Frm.frs l).length else Frm.joinE l) ∧ ∃ fd', ProgDisk W bd fd' (if Frm.joinE l = 0 then appS s (Frm.frs l) else s) ∧ Touch fd w W ∧ From fd fd' w
abbrev laySteps (bj g : Nat) : List StepV := [(26, optr bj), (27, optr g), (28, optr g)]
theorem first_lay (bj : Nat) (v : Value) (D : Draft w w3 g gs bd p n c l (laySteps bj g)) (hj : Blk w bj (jcells bj bd v) 28) (hd : ProgDisk w bd fd s) (hs : s.steps ≤ 1000000) (hfl : Frm.joinE l = 0 → (Frm.frs l).length ≤ 1000000000) :
    Calls Try.prog 25 #[.slice (some ⟨gs, 0, none⟩) 3 3] w3 fun e w' => ∃ z : Int, e = .returned (i64v z) ∧ LayQ w bd fd s l z w' := by
  refine first_any (laySteps bj g) 3 _ 3 w3 rfl (by omega) ?_
    (fun k W => (k ≤ 1 ∧ W = w3) ∨ (k = 2 ∧ Frm.joinE l = 0 ∧ ∃ q m cap, Joined w3 W g (optr bd) (.slice p n c) (Frm.frs l) q m cap) ∨ (k = 3 ∧ LayQ w bd fd s l 0 W)) (LayQ w bd fd s l) (.inl ⟨by omega, rfl⟩) ?_ ?_ ?_
  · intro x hx
    simp only [laySteps, List.mem_cons, List.mem_singleton, List.not_mem_nil, or_false] at hx
    rcases hx with rfl | rfl | rfl
    · exact enters_of Try.func26 (by kernel_rfl) rfl
    · exact enters_of Try.func27 (by kernel_rfl) rfl
    · exact enters_of Try.func28 (by kernel_rfl) rfl
  · rintro k W hk (⟨_, rfl⟩ | ⟨_, _, q, m, cap, J⟩ | ⟨rfl, _⟩)
    · exact D.at_ (fd := []) (by simp) (Touch.refl _ _)
    · exact D.at_ (fd := []) (by simp) J.touch
    · omega
  · rintro k x hx W (⟨hk, rfl⟩ | ⟨rfl, hj0, q, m, cap, J⟩ | ⟨rfl, _⟩)
    · obtain rfl | rfl : k = 0 ∨ k = 1 := by omega
      · cases hx
        refine (pthere_any bj bd v W (hj.below D.below hj.lt)).mono ?_
        rintro e W' ⟨rfl, rfl⟩
        exact ⟨0, rfl, fun _ => .inl ⟨by omega, rfl⟩, fun h => absurd rfl h⟩
      · cases hx
        refine (pjoin_any g (optr bd) l p n c _ W D.blk D.recs D.few).mono ?_
        rintro e W' ⟨rfl, q, m, cap, J⟩
        refine ⟨_, rfl, fun hz => .inr (.inl ⟨rfl, hz, q, m, cap, by rw [← join_one hz]; exact J⟩), fun hz => ⟨by rw [if_neg hz], fd, ?_, touch_new D.below D.g_new (touch_more J.touch (by simp)), From.refl _ _⟩⟩
        rw [if_neg hz]
        exact D.disk hd J.touch
    · cases hx
      refine (pjlay_any g bd fd s _ (Frm.frs l) m q cap W J.blk (D.disk hd J.touch) (by omega) J.len (by rw [← J.len]; exact hfl hj0) (J.good D.bytes) (J.apart fun k hk => Nat.lt_of_lt_of_le (progHeldD.low hd k hk) D.below.size)).mono ?_
      rintro e W' ⟨rfl, fd', hr, ht, hf⟩
      obtain ⟨h1, h2⟩ := D.done J ht hf
      have hq : LayQ w bd fd s l (appE s m) W' := ⟨by rw [if_pos hj0, J.len], fd', by rw [if_pos hj0]; exact hr, touch_new D.below D.g_new h1, h2⟩
      exact ⟨_, rfl, fun hz => .inr (.inr ⟨rfl, by rw [hz] at hq; exact hq⟩), fun _ => hq⟩
    · cases hx
  · rintro W (⟨h, _⟩ | ⟨h, _⟩ | ⟨_, h⟩)
    · omega
    · omega
    · exact h
def RwQ (w : World) (bd : Nat) (fd : List Nat) (s : DState) (l : Rs) (z : Int) (W : World) : Prop :=
  z = jrwE s l ∧ ∃ fd', ProgDisk W bd fd' (jrwS s l) ∧ Touch fd w W ∧ From fd fd' w
abbrev rwSteps (bj g bd : Nat) : List StepV := [(26, optr bj), (27, optr g), (31, optr g), (32, optr bd)]
theorem next_steps (s : DState) (b : List Int) : (nextS s b).steps ≤ s.steps + 1 := by
  unfold nextS; split
  · exact Nat.le_refl _
  · omega
theorem first_rw (bj : Nat) (v : Value) (D : Draft w w3 g gs bd p n c l (rwSteps bj g bd)) (hj : Blk w bj (jcells bj bd v) 28) (hd : ProgDisk w bd fd s) (hs : s.steps ≤ 1000000) (hfl : Frm.joinE l = 0 → (Frm.frs l).length ≤ 1000000000) :
    Calls Try.prog 25 #[.slice (some ⟨gs, 0, none⟩) 4 4] w3 fun e w' => ∃ z : Int, e = .returned (i64v z) ∧ RwQ w bd fd s l z w' := by
  refine first_any (rwSteps bj g bd) 4 _ 4 w3 rfl (by omega) ?_
    (fun k W => (k ≤ 1 ∧ W = w3) ∨ (k = 2 ∧ Frm.joinE l = 0 ∧ ∃ q m cap, Joined w3 W g (optr bd) (.slice p n c) (Frm.frs l) q m cap) ∨
      (k = 3 ∧ Frm.joinE l = 0 ∧ appE s (Frm.frs l).length = 0 ∧ ∃ fd', ProgDisk W bd fd' (nextS s (Frm.frs l)) ∧ Touch (g :: fd) w3 W ∧ From fd fd' w) ∨ (k = 4 ∧ RwQ w bd fd s l 0 W)) (RwQ w bd fd s l) (.inl ⟨by omega, rfl⟩) ?_ ?_ ?_
  · intro x hx
    simp only [rwSteps, List.mem_cons, List.mem_singleton, List.not_mem_nil, or_false] at hx
    rcases hx with rfl | rfl | rfl | rfl
    · exact enters_of Try.func26 (by kernel_rfl) rfl
    · exact enters_of Try.func27 (by kernel_rfl) rfl
    · exact enters_of Try.func31 (by kernel_rfl) rfl
    · exact enters_of Try.func32 (by kernel_rfl) rfl
  · rintro k W hk (⟨_, rfl⟩ | ⟨_, _, q, m, cap, J⟩ | ⟨_, _, _, fd', _, ht, _⟩ | ⟨rfl, _⟩)
    · exact D.at_ (fd := []) (by simp) (Touch.refl _ _)
    · exact D.at_ (fd := []) (by simp) J.touch
    · exact D.at_ (progHeldD.low hd) ht
    · omega
  · rintro k x hx W (⟨hk, rfl⟩ | ⟨rfl, hj0, q, m, cap, J⟩ | ⟨rfl, hj0, ha0, fd', hr, ht, hf⟩ | ⟨rfl, _⟩)
    · obtain rfl | rfl : k = 0 ∨ k = 1 := by omega
      · cases hx
        refine (pthere_any bj bd v W (hj.below D.below hj.lt)).mono ?_
        rintro e W' ⟨rfl, rfl⟩
        exact ⟨0, rfl, fun _ => .inl ⟨by omega, rfl⟩, fun h => absurd rfl h⟩
      · cases hx
        refine (pjoin_any g (optr bd) l p n c _ W D.blk D.recs D.few).mono ?_
        rintro e W' ⟨rfl, q, m, cap, J⟩
        refine ⟨_, rfl, fun hz => .inr (.inl ⟨rfl, hz, q, m, cap, by rw [← join_one hz]; exact J⟩), fun hz => ⟨by unfold jrwE; rw [if_neg hz], fd, ?_, touch_new D.below D.g_new (touch_more J.touch (by simp)), From.refl _ _⟩⟩
        unfold jrwS
        rw [if_neg hz]
        exact D.disk hd J.touch
    · cases hx
      refine (pjlayN_any g bd fd s _ (Frm.frs l) m q cap W J.blk (D.disk hd J.touch) (by omega) J.len (by rw [← J.len]; exact hfl hj0) (J.good D.bytes) (J.apart fun k hk => Nat.lt_of_lt_of_le (progHeldD.low hd k hk) D.below.size)).mono ?_
      rintro e W' ⟨rfl, fd', hr, ht, hf⟩
      obtain ⟨h1, h2⟩ := D.done J ht hf
      refine ⟨_, rfl, fun hz => .inr (.inr (.inl ⟨rfl, hj0, by rw [J.len]; exact hz, fd', hr, h1, h2⟩)), fun hz => ⟨?_, fd', ?_, touch_new D.below D.g_new h1, h2⟩⟩
      · unfold jrwE rwE; rw [if_pos hj0, J.len, if_neg hz]
      · unfold jrwS rwS; rw [if_pos hj0, J.len, if_neg hz]; exact hr
    · cases hx
      have hst := next_steps s (Frm.frs l)
      refine (pswitch_any bd fd' _ W hr (by omega)).mono ?_
      rintro e W' ⟨rfl, fd2, hr2, ht2, hf2⟩
      have hsz : w.heap.size ≤ W.heap.size := Nat.le_trans D.below.size ht.size
      have hq : RwQ w bd fd s l (syncE (nextS s (Frm.frs l))) W' := by
        refine ⟨by unfold jrwE rwE; rw [if_pos hj0, if_pos ha0], fd2, by unfold jrwS rwS; rw [if_pos hj0, if_pos ha0]; exact hr2, ?_, hf.trans hf2 hsz⟩
        exact (touch_new D.below D.g_new ht).trans ht2 hf
      exact ⟨_, rfl, fun hz => .inr (.inr (.inr ⟨rfl, by rw [hz] at hq; exact hq⟩)), fun _ => hq⟩
    · cases hx
  · rintro W (⟨h, _⟩ | ⟨h, _⟩ | ⟨h, _⟩ | ⟨_, h⟩)
    · omega
    · omega
    · omega
    · exact h
end
end
end Go.Proofs.Ythopfpfmliookaa
