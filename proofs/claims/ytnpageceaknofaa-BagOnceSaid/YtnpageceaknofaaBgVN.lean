/-
  The program's bags of numbers: what only reads, and what is made.
-/
import Derived.Test.YtnpageceaknofaaBgUN
import Derived.LaidEql
import Derived.Deep.RegionHeld3
namespace Go.Proofs.Ytnpageceaknofaa
set_option linter.unusedSimpArgs false
set_option linter.unusedVariables false
open Go.RowKit Go.Shelf Sha Rin Bag
theorem infoBN : ∃ j, Try.prog.info? 49 = some j := by
  have h : (Try.prog.info? 49).isSome = true := by kernel_rfl
  exact Option.isSome_iff_exists.1 h
theorem noneN_any (b : Nat) (cs : List Value) (w : World) (h : w.cell? ⟨b, 0, none⟩ = some (optr b)) :
    Calls Try.prog 30 #[optr b] w fun e w' => e = .returned (.bool false) ∧ w' = w := by
  obtain ⟨j, hj⟩ := infoBN
  have hq := run_neq_ptr_same (P := Try.prog) ⟨b, 0, none⟩ Try.underlying23 hj
  clear hj
  go_enter Try.func30, Try.ntmps30
  go_wp2_with fail
  go_ret
  exact ⟨rfl, rfl⟩
def MadeDoneN (m : Nat) (p : Option Addr) (c f n : Nat) (w : World) (e : Ending) (w' : World) : Prop :=
  ∃ B, e = .returned (optr B) ∧ w.heap.size ≤ B ∧ Blk w' B (hdr B m p c f n) 49 ∧ Below w.heap.size w w'
set_option maxHeartbeats 1000000 in
theorem madeN_any (m : Nat) (p : Option Addr) (c f n : Nat) (w : World) :
    Calls Try.prog 29 #[.int .i64 m, .agg #[.slice p c c, .int .i64 f, .int .i64 n]] w (MadeDoneN m p c f n w) := by
  go_enter Try.func29, Try.ntmps29
  go_wp2_with fail
  go_ret
  have h1 := Blk.new (w.alloc (Obj.cells #[Value.slice p c c, Value.int IntKind.i64 f, Value.int IntKind.i64 n] 47)) #[Value.pointer (some ⟨w.heap.size + 1, 0, none⟩), Value.int IntKind.i64 m, Value.slice p c c, Value.int IntKind.i64 f, Value.int IntKind.i64 n] 49
  rw [World.size_alloc] at h1
  exact ⟨w.heap.size + 1, rfl, by omega, h1, ((Below.refl _ w).alloc (Nat.le_refl _) _).alloc (by simp) _⟩
def TwinDoneN (l : List Int) (n : Nat) (w : World) (e : Ending) (w' : World) : Prop :=
  ∃ G, e = .returned (.agg #[.slice (some ⟨G, 0, none⟩) n n, .int .i64 (0 : Nat), .int .i64 n]) ∧ w.heap.size ≤ G ∧ Blk w' G (l.map (Value.int .i64)) 3 ∧ Below w.heap.size w w'
set_option maxRecDepth 100000 in
set_option maxHeartbeats 1000000 in
theorem twinN_any (b m g : Nat) (p : Option Addr) (f n : Nat) (cs l : List Int) (w : World) (hn : l.length = n) (h : RingAtN w b m g p f cs l) :
    Calls Try.prog 31 #[.pointer (some ⟨b, 2, none⟩)] w (TwinDoneN l n w) := by
  have k2 : w.cell? ⟨b, 2, none⟩ = some (.slice p cs.length cs.length) := h.head.cell 2
  have k3 : w.cell? ⟨b, 3, none⟩ = some (.int .i64 f) := h.head.cell 3
  have k4 : w.cell? ⟨b, 4, none⟩ = some (.int .i64 l.length) := h.head.cell 4
  have hgt := h.get
  have hle := h.ring.le
  have HL := Lib.hid (fun W (hB : Below w.heap.size w W) => listN_any b g p cs.length f l.length l.length l W ((hB.cell (World.block_lt_of_cell? w _ k2)).trans k2) ((hB.cell (World.block_lt_of_cell? w _ k3)).trans k3) ((hB.cell (World.block_lt_of_cell? w _ k4)).trans k4)
    (by rcases h.row with h | h; exact .inl h; exact .inr h) cs rfl rfl h.ring (by have := h.most; have := h.room; omega) (fun j x hj => (hB.cell (World.block_lt_of_cell? w _ (hgt j x hj))).trans (hgt j x hj)) (Nat.le_refl _) (by have := h.most; have := h.room; omega))
  rw [hn] at k4 HL
  have hbl := h.head.lt
  have HN := Lib.hid hn
  clear h hgt k2 k3 hn
  have hne := World.new_ne w ⟨b, 4, none⟩ k4
  go_enter Try.func31, Try.ntmps31
  go_wp2_with fail
  have hk0 := Blk.new w #[Value.slice none 0 0, Value.int IntKind.i64 0, Value.int IntKind.i64 0] 47
  have hB1 := (Below.refl w.heap.size w).alloc (Nat.le_refl _) (Obj.cells #[Value.slice none 0 0, Value.int IntKind.i64 0, Value.int IntKind.i64 0] 47)
  obtain ⟨w1, hw1⟩ : ∃ x, x = w.alloc (Obj.cells #[Value.slice none 0 0, Value.int IntKind.i64 0, Value.int IntKind.i64 0] 47) := ⟨_, rfl⟩
  rw [← hw1] at hk0 hB1 ⊢
  have hs1 : w1.heap.size = w.heap.size + 1 := by rw [hw1]; simp
  clear hw1
  have d4 : w1.cell? ⟨b, 4, none⟩ = some (.int .i64 n) := (hB1.cell (World.block_lt_of_cell? w _ k4)).trans k4
  have HB1 := Lib.hid hB1
  have HK0 := Lib.hid hk0
  have HS1 := Lib.hid hs1
  clear hB1 hk0 k4
  go_region_held3 (fun w' => w'.cell? ⟨b, 4, none⟩ = some (.int .i64 n)) (go_keep)
    (first | (go_at_call 37; refine (HL.out _ (HB1.out.drew)).mono ?_; rintro e w2 ⟨G, rfl, hG, hk, hb⟩; have e4 := (hb.cell (World.block_lt_of_cell? w1.drew _ d4)).trans d4; have hz := HK0.out.drew.below hb HK0.out.lt; have z0 := hz.cell 0; have z1 := hz.cell 1; have z2 := hz.cell 2; have y0 := hz.free 0; have y1 := hz.free 1; have y2 := hz.free 2; have HZ := Lib.hid hz; clear hz; simp only [List.getElem?_cons_zero, List.getElem?_cons_succ] at z0 z1 z2; have HG := Lib.hid hG; have HK := Lib.hid hk; have HB := Lib.hid hb; clear hG hk hb))
  have hz3 := ((HZ.out.set 0 (.slice (some ⟨G, 0, none⟩) n n)).set 1 (.int .i64 0)).set 2 (.int .i64 n)
  simp only [List.set_cons_zero, List.set_cons_succ] at hz3
  have hw3 : Below w.heap.size w (((w2.setCell ⟨w.heap.size, 0, none⟩ (Value.slice (some ⟨G, 0, none⟩) n n)).setCell ⟨w.heap.size, 1, none⟩ (Value.int IntKind.i64 0)).setCell ⟨w.heap.size, 2, none⟩ (Value.int IntKind.i64 n)) := by
    have h0 : Below w.heap.size w w2 := HB1.out.trans ((Below.drew (Below.refl _ w1)).trans (HB.out.mono (by simp [HS1.out])))
    exact ((h0.setCell (p := ⟨w.heap.size, 0, none⟩) (Nat.le_refl _) _).setCell (p := ⟨w.heap.size, 1, none⟩) (Nat.le_refl _) _).setCell (p := ⟨w.heap.size, 2, none⟩) (Nat.le_refl _) _
  have hk3 : Blk (((w2.setCell ⟨w.heap.size, 0, none⟩ (Value.slice (some ⟨G, 0, none⟩) n n)).setCell ⟨w.heap.size, 1, none⟩ (Value.int IntKind.i64 0)).setCell ⟨w.heap.size, 2, none⟩ (Value.int IntKind.i64 n)) G (l.map (Value.int .i64)) 3 := by
    have hGn : w.heap.size + 1 ≤ G := by have := HG.out; rw [← HS1.out]; exact this
    have h1 := HK.out
    rw [HN.out, Nat.sub_self, List.replicate_zero, List.append_nil] at h1
    refine (Below.heap_setCell _ _ _ _ (by simp; omega)).trans ((Below.heap_setCell _ _ _ _ (by simp; omega)).trans ((Below.heap_setCell _ _ _ _ (by simp; omega)).trans h1))
  generalize (((w2.setCell ⟨w.heap.size, 0, none⟩ (Value.slice (some ⟨G, 0, none⟩) n n)).setCell ⟨w.heap.size, 1, none⟩ (Value.int IntKind.i64 0)).setCell ⟨w.heap.size, 2, none⟩ (Value.int IntKind.i64 n)) = w3 at *
  have HZ3 := Lib.hid hz3
  have hszr : (Try.prog.info? 47).map (fun i => i.size) = some 3 := by kernel_rfl
  have HW3 := Lib.hid hw3
  have HK3 := Lib.hid hk3
  clear hz3 hw3 hk3 z0 z1 z2 y0 y1 y2 e4
  go_wp2_with fail
  refine bodyPost_ret (v := .agg #[.slice (some ⟨G, 0, none⟩) n n, .int .i64 (0 : Nat), .int .i64 n]) (results_cell_row rfl _ _ _ _ _ _ _ rfl HZ3.out (Try.underlying47) rfl hszr) rfl ?_
  exact ⟨G, rfl, by have := HG.out; rw [show w1.drew.heap.size = w1.heap.size from rfl, HS1.out] at this; omega, HK3.out, HW3.out⟩
/-- What a put leaves. -/
def PushDoneN (b m : Nat) (p : Option Addr) (l : List Int) (w : World) (e : Ending) (w' : World) : Prop :=
  (∃ v, e = .returned v) ∧ ∃ p' g' f' cs', RingAtN w' b m g' p' f' cs' l ∧ Touch (ringFp b p) w w' ∧ From (ringFp b p) (ringFp b p') w
theorem push_endN {w W : World} {b m g f q n : Nat} {p : Option Addr} {cs l : List Int} {x : Int} (hH : Blk W b (hdr b m (some ⟨g, 0, none⟩) cs.length f n) 49) (hC : Blk W g (cs.map (Value.int .i64)) 3) (hR : Is cs f l) (hn : l.length = n) (hgb : g ≠ b) (hlt : n < cs.length)
    (hcm : cs.length ≤ m) (hm : m ≤ 2000) (hq : q = (f + n) % cs.length) (hT : Touch (ringFp b p) w W) (hg : g ∈ ringFp b p ∨ w.heap.size ≤ g) (nq : Nat) (v : Value) :
    PushDoneN b m p (l ++ [x]) w (.returned v) (((W.drewN nq).setCell ⟨g, q, none⟩ (Value.int .i64 x)).setCell ⟨b, 4, none⟩ (.int .i64 ((n : Int) + 1))) := by
  have h1 : Blk (W.drewN nq) b (hdr b m (some ⟨g, 0, none⟩) cs.length f n) 49 := hH
  have h2 := (h1.setOther ⟨g, q, none⟩ (Value.int .i64 x) (by simpa using Ne.symm hgb)).set 4 (.int .i64 ((n : Int) + 1))
  have h3 : Blk (W.drewN nq) g (cs.map (Value.int .i64)) 3 := hC
  have h4 := (h3.set q (Value.int .i64 x)).setOther ⟨b, 4, none⟩ (.int .i64 ((n : Int) + 1)) (by simpa using hgb)
  rw [← List.map_set] at h4
  refine ⟨⟨_, rfl⟩, some ⟨g, 0, none⟩, g, f, cs.set q x, ⟨?_, .inr rfl, fun _ => ⟨h4, hgb⟩, ?_, by rw [List.length_set]; exact hcm, hm⟩, ?_, ?_⟩
  · rw [List.length_set, List.length_append, hn]; exact h2
  · rw [hq, ← hn]; exact hR.put (by omega) x
  · have ht := hT.drewN nq
    rcases hg with hg | hg
    · exact (ht.setIn hg _).setIn (ringFp_mem b p) _
    · exact (ht.setNew hg _).setIn (ringFp_mem b p) _
  · intro k hk
    simp only [ringFp, Option.map_some, Option.toList_some, List.mem_cons, List.not_mem_nil, or_false] at hk
    rcases hk with rfl | rfl
    · exact .inl (ringFp_mem _ _)
    · exact hg
set_option maxRecDepth 100000 in
set_option maxHeartbeats 1000000 in
theorem pushN_any (b m g : Nat) (p : Option Addr) (f n : Nat) (cs l : List Int) (x : Int) (w : World) (hn : l.length = n) (h : RingAtN w b m g p f cs l) (hl : n < m) :
    Calls Try.prog 32 #[.pointer (some ⟨b, 2, none⟩), Value.int .i64 x, .int .i64 m] w (PushDoneN b m p (l ++ [x]) w) := by
  have hle := h.ring.le
  rw [hn] at hle
  have hmost := h.most
  have hroom := h.room
  have hH := h.head
  rw [hn] at hH
  have k2 : w.cell? ⟨b, 2, none⟩ = some (.slice p cs.length cs.length) := hH.cell 2
  have k3 : w.cell? ⟨b, 3, none⟩ = some (.int .i64 f) := hH.cell 3
  have k4 : w.cell? ⟨b, 4, none⟩ = some (.int .i64 n) := hH.cell 4
  by_cases hlt : n < cs.length
  · have hp : p = some ⟨g, 0, none⟩ := by rcases h.row with ⟨_, h0⟩ | hp; omega; exact hp
    obtain ⟨hC, hgb⟩ := h.cells hp
    rw [hp] at hH k2
    have hR := h.ring
    have hfc : f < cs.length := by rcases hR.first with h | h <;> omega
    have hg : g ∈ ringFp b p ∨ w.heap.size ≤ g := .inl (by rw [hp]; simp [ringFp])
    have HN := Lib.hid hn
    have hne : ((n : Int) == (cs.length : Int)) = false := by rw [beq_eq_false_iff_ne]; omega
    have HH := Lib.hid hH
    have HC := Lib.hid hC
    have HR2 := Lib.hid hR
    have HG2 := Lib.hid hg
    clear h hH hC hR hn hp hg
    go_enter Try.func32, Try.ntmps32
    go_wp2_with fail
    go_quiet (fail)
    go_wp2_with fail
    have HH2 := Lib.hid (HH.out.drewN nq)
    have HC2 := Lib.hid (HC.out.drewN nq)
    have HT2 := Lib.hid ((Touch.refl (ringFp b p) w).drewN nq)
    have hlt2 := hlt
    have hcm2 := hmost
    generalize w.drewN nq = W2 at HH2 HC2 HT2 ⊢
    clear HH HC k2 k3 k4 hne
    have t2 : W2.cell? ⟨b, 2, none⟩ = some (.slice (some ⟨g, 0, none⟩) cs.length cs.length) := HH2.out.cell 2
    have t3 : W2.cell? ⟨b, 3, none⟩ = some (.int .i64 (f : Nat)) := HH2.out.cell 3
    have t4 : W2.cell? ⟨b, 4, none⟩ = some (.int .i64 n) := HH2.out.cell 4
    have HPL := Lib.hid (fun d => placeN_any b _ cs.length f n (W2.drewN d) t2 t3 (by omega) (by omega) (by omega) (by omega))
    rw [Int.toNat_natCast] at HPL
    obtain ⟨q, hq⟩ : ∃ q, q = (f + n) % cs.length := ⟨_, rfl⟩
    rw [← hq] at HPL
    have hqc : q < cs.length := by rw [hq]; exact Nat.mod_lt _ (by omega)
    have HQ := Lib.hid hq
    clear hq
    have i1 : (0 : Int) ≤ (q : Int) := by omega
    have i2 : (q : Int) < (cs.length : Int) := by omega
    have hgb1 : b ≠ g := Ne.symm hgb
    refine region_quiet_tail 12 (by kernel_rfl) (by kernel_rfl) ?_
    simp only [List.take_succ_cons, List.take_zero, List.drop_succ_cons, List.drop_zero]
    repeat (go_big_quiet_step (first | (go_at_call 45; refine Calls.quiet_of (HPL.out _))))
    refine wpQuiet_nil ?_
    rintro _ ⟨nq2, rfl⟩
    have e1 : (W2.drewN nq2).cell? ⟨g, q, none⟩ = some (Value.int .i64 (cs[q]'hqc)) := by
      have h1 : W2.cell? ⟨g, q, none⟩ = _ := HC2.out.cell q
      rw [List.getElem?_map, List.getElem?_eq_getElem hqc] at h1
      exact h1
    have e2 : (W2.drewN nq2).frozen? ⟨g, q, none⟩ = false := HC2.out.free q
    have hs2 : Blk ((W2.drewN nq2).setCell ⟨g, q, none⟩ (Value.int .i64 x)) b (hdr b m (some ⟨g, 0, none⟩) cs.length f n) 49 := (HH2.out.drewN nq2).setOther ⟨g, q, none⟩ (Value.int .i64 x) (by simpa using hgb1)
    have e3 : ((W2.drewN nq2).setCell ⟨g, q, none⟩ (Value.int .i64 x)).cell? ⟨b, 4, none⟩ = some (.int .i64 n) := hs2.cell 4
    have e4 : ((W2.drewN nq2).setCell ⟨g, q, none⟩ (Value.int .i64 x)).frozen? ⟨b, 4, none⟩ = false := hs2.free 4
    have HE := Lib.hid (fun v => push_endN (x := x) HH2.out HC2.out HR2.out HN.out hgb hlt2 hcm2 hroom HQ.out HT2.out HG2.out nq2 v)
    generalize cs[q]'hqc = old at e1
    clear hs2 HPL HH2 HC2 HR2 HQ HT2 HG2
    go_wp2_with fail
    refine bodyPost_ret (results_none rfl _ _ _) rfl ?_
    exact HE.out _
  · have hnc : n = cs.length := by omega
    obtain ⟨N, hN⟩ : ∃ N, N = min (2 * n + 1) m := ⟨_, rfl⟩
    have hL := fun (d : Nat) (z : Int) (hz : z = (N : Int)) => hz ▸ listN_any b g p cs.length f n N l (w.drewN d) k2 k3 k4 (by rcases h.row with h | h; exact .inl h; exact .inr h) cs rfl hn h.ring (by omega) (fun j x hj => h.get j x hj) (by omega) (by omega)
    have HL := Lib.hid hL
    have HN := Lib.hid hn
    have HNN := Lib.hid hN
    have hN1 : n < N := by omega
    have hN2 : N ≤ m := by omega
    have hne : ((n : Int) == (cs.length : Int)) = true := by rw [beq_iff_eq]; omega
    have HH := Lib.hid hH
    have HBL := Lib.hid hH.lt
    clear hL h hH hn hN hnc
    go_enter Try.func32, Try.ntmps32
    go_wp2_with fail
    go_quiet (fail)
    go_wp2_with fail
    all_goals
      refine (HL.out _ _ (by have := HNN.out; omega)).mono ?_
      rintro e w1 ⟨G, rfl, hG, hk, hb1⟩
      rw [HN.out] at hk
      have hlen : (l ++ List.replicate (N - n) (0 : Int)).length = N := by rw [List.length_append, List.length_replicate, HN.out]; omega
      have hR2 := Is.laid l (List.replicate (N - n) (0 : Int))
      generalize l ++ List.replicate (N - n) (0 : Int) = C2 at hk hlen hR2
      have hH1 := (HH.out.drewN nq).below hb1 HBL.out
      have hs1 := hH1.set 2 (.slice (some ⟨G, 0, none⟩) N N)
      have hs2 := hs1.set 3 (.int .i64 0)
      have a1 : w1.cell? ⟨b, 2, none⟩ = some (.slice p cs.length cs.length) := hH1.cell 2
      have a2 : w1.frozen? ⟨b, 2, none⟩ = false := hH1.free 2
      have a3 : (w1.setCell ⟨b, 2, none⟩ (.slice (some ⟨G, 0, none⟩) N N)).cell? ⟨b, 3, none⟩ = some (.int .i64 f) := hs1.cell 3
      have a4 : (w1.setCell ⟨b, 2, none⟩ (.slice (some ⟨G, 0, none⟩) N N)).frozen? ⟨b, 3, none⟩ = false := hs1.free 3
      have hgb : G ≠ b := fun e => by have := HBL.out; rw [e] at hG; exact absurd hG (by show ¬ w.heap.size ≤ b; omega)
      have hk2 : Blk ((w1.setCell ⟨b, 2, none⟩ (.slice (some ⟨G, 0, none⟩) N N)).setCell ⟨b, 3, none⟩ (.int .i64 0)) G (C2.map (Value.int .i64)) 3 :=
        (Below.heap_setCell _ _ _ _ hgb).trans ((Below.heap_setCell _ _ _ _ hgb).trans hk)
      have HC2 := Lib.hid hk2
      have HH2 := Lib.hid (show Blk ((w1.setCell ⟨b, 2, none⟩ (.slice (some ⟨G, 0, none⟩) N N)).setCell ⟨b, 3, none⟩ (.int .i64 0)) b (hdr b m (some ⟨G, 0, none⟩) C2.length 0 n) 49 by rw [hlen]; exact hs2)
      have HR2 := Lib.hid hR2
      have HT2 := Lib.hid (show Touch (ringFp b p) w ((w1.setCell ⟨b, 2, none⟩ (.slice (some ⟨G, 0, none⟩) N N)).setCell ⟨b, 3, none⟩ (.int .i64 0)) from
        ((Touch.of_below ((below_drewN (Below.refl w.heap.size w) nq).trans (hb1.mono (Nat.le_refl _)))).setIn (ringFp_mem b p) _).setIn (ringFp_mem b p) _)
      have HG2 := Lib.hid (show G ∈ ringFp b p ∨ w.heap.size ≤ G from .inr hG)
      have hlt2 : n < C2.length := by omega
      have hcm2 : C2.length ≤ m := by omega
      have HB1 := Lib.hid hb1
      clear hG hk hb1 hH1 hs1 hs2 hk2 hlen hR2 k2 k3 k4
      go_wp2_with fail
      generalize (w1.setCell ⟨b, 2, none⟩ (.slice (some ⟨G, 0, none⟩) N N)).setCell ⟨b, 3, none⟩ (.int .i64 0) = W2 at HH2 HC2 HT2 ⊢
      clear a1 a2 a3 a4
      have t2 : W2.cell? ⟨b, 2, none⟩ = some (.slice (some ⟨G, 0, none⟩) C2.length C2.length) := HH2.out.cell 2
      have t3 : W2.cell? ⟨b, 3, none⟩ = some (.int .i64 (0 : Nat)) := HH2.out.cell 3
      have t4 : W2.cell? ⟨b, 4, none⟩ = some (.int .i64 n) := HH2.out.cell 4
      have HPL := Lib.hid (fun d => placeN_any b _ C2.length 0 n (W2.drewN d) t2 t3 (by omega) (by omega) (by omega) (by omega))
      rw [Int.toNat_natCast] at HPL
      obtain ⟨q, hq⟩ : ∃ q, q = (0 + n) % C2.length := ⟨_, rfl⟩
      rw [← hq] at HPL
      have hqc : q < C2.length := by rw [hq]; exact Nat.mod_lt _ (by omega)
      have HQ := Lib.hid hq
      clear hq
      have i1 : (0 : Int) ≤ (q : Int) := by omega
      have i2 : (q : Int) < (C2.length : Int) := by omega
      have hgb1 : b ≠ G := Ne.symm hgb
      refine region_quiet_tail 12 (by kernel_rfl) (by kernel_rfl) ?_
      simp only [List.take_succ_cons, List.take_zero, List.drop_succ_cons, List.drop_zero]
      repeat (go_big_quiet_step (first | (go_at_call 45; refine Calls.quiet_of (HPL.out _))))
      refine wpQuiet_nil ?_
      rintro _ ⟨nq2, rfl⟩
      have e1 : (W2.drewN nq2).cell? ⟨G, q, none⟩ = some (Value.int .i64 (C2[q]'hqc)) := by
        have h1 : W2.cell? ⟨G, q, none⟩ = _ := HC2.out.cell q
        rw [List.getElem?_map, List.getElem?_eq_getElem hqc] at h1
        exact h1
      have e2 : (W2.drewN nq2).frozen? ⟨G, q, none⟩ = false := HC2.out.free q
      have hs2 : Blk ((W2.drewN nq2).setCell ⟨G, q, none⟩ (Value.int .i64 x)) b (hdr b m (some ⟨G, 0, none⟩) C2.length 0 n) 49 := (HH2.out.drewN nq2).setOther ⟨G, q, none⟩ (Value.int .i64 x) (by simpa using hgb1)
      have e3 : ((W2.drewN nq2).setCell ⟨G, q, none⟩ (Value.int .i64 x)).cell? ⟨b, 4, none⟩ = some (.int .i64 n) := hs2.cell 4
      have e4 : ((W2.drewN nq2).setCell ⟨G, q, none⟩ (Value.int .i64 x)).frozen? ⟨b, 4, none⟩ = false := hs2.free 4
      have HE := Lib.hid (fun v => push_endN (x := x) HH2.out HC2.out HR2.out HN.out hgb hlt2 hcm2 hroom HQ.out HT2.out HG2.out nq2 v)
      generalize C2[q]'hqc = old at e1
      clear hs2 HPL HH2 HC2 HR2 HQ HT2 HG2
      go_wp2_with fail
      refine bodyPost_ret (results_none rfl _ _ _) rfl ?_
      exact HE.out _
end Go.Proofs.Ytnpageceaknofaa
