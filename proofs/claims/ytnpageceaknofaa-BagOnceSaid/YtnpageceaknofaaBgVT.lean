/-
  The program's bags of texts: what only reads, and what is made.
-/
import Derived.Test.YtnpageceaknofaaBgUT
import Derived.LaidEql
import Derived.Deep.RegionHeld3
namespace Go.Proofs.Ytnpageceaknofaa
set_option linter.unusedSimpArgs false
set_option linter.unusedVariables false
open Go.RowKit Go.Shelf Sha Rin Bag
theorem infoBT : ∃ j, Try.prog.info? 75 = some j := by
  have h : (Try.prog.info? 75).isSome = true := by kernel_rfl
  exact Option.isSome_iff_exists.1 h
theorem noneT_any (b : Nat) (cs : List Value) (w : World) (h : w.cell? ⟨b, 0, none⟩ = some (optr b)) :
    Calls Try.prog 40 #[optr b] w fun e w' => e = .returned (.bool false) ∧ w' = w := by
  obtain ⟨j, hj⟩ := infoBT
  have hq := run_neq_ptr_same (P := Try.prog) ⟨b, 0, none⟩ Try.underlying54 hj
  clear hj
  go_enter Try.func40, Try.ntmps40
  go_wp2_with fail
  go_ret
  exact ⟨rfl, rfl⟩
def MadeDoneT (m : Nat) (p : Option Addr) (c f n : Nat) (w : World) (e : Ending) (w' : World) : Prop :=
  ∃ B, e = .returned (optr B) ∧ w.heap.size ≤ B ∧ Blk w' B (hdr B m p c f n) 75 ∧ Below w.heap.size w w'
set_option maxHeartbeats 1000000 in
theorem madeT_any (m : Nat) (p : Option Addr) (c f n : Nat) (w : World) :
    Calls Try.prog 48 #[.int .i64 m, .agg #[.slice p c c, .int .i64 f, .int .i64 n]] w (MadeDoneT m p c f n w) := by
  go_enter Try.func48, Try.ntmps48
  go_wp2_with fail
  go_ret
  have h1 := Blk.new (w.alloc (Obj.cells #[Value.slice p c c, Value.int IntKind.i64 f, Value.int IntKind.i64 n] 73)) #[Value.pointer (some ⟨w.heap.size + 1, 0, none⟩), Value.int IntKind.i64 m, Value.slice p c c, Value.int IntKind.i64 f, Value.int IntKind.i64 n] 75
  rw [World.size_alloc] at h1
  exact ⟨w.heap.size + 1, rfl, by omega, h1, ((Below.refl _ w).alloc (Nat.le_refl _) _).alloc (by simp) _⟩
/-- What a put leaves. -/
def PushDoneT (b m : Nat) (p : Option Addr) (l : List ByteArray) (w : World) (e : Ending) (w' : World) : Prop :=
  (∃ v, e = .returned v) ∧ ∃ p' g' f' cs', RingAtT w' b m g' p' f' cs' l ∧ Touch (ringFp b p) w w' ∧ From (ringFp b p) (ringFp b p') w
theorem push_endT {w W : World} {b m g f q n : Nat} {p : Option Addr} {cs l : List ByteArray} {x : ByteArray} (hH : Blk W b (hdr b m (some ⟨g, 0, none⟩) cs.length f n) 75) (hC : Blk W g (cs.map (Value.string)) 9) (hR : Is cs f l) (hn : l.length = n) (hgb : g ≠ b) (hlt : n < cs.length)
    (hcm : cs.length ≤ m) (hm : m ≤ 2000) (hq : q = (f + n) % cs.length) (hT : Touch (ringFp b p) w W) (hg : g ∈ ringFp b p ∨ w.heap.size ≤ g) (nq : Nat) (v : Value) :
    PushDoneT b m p (l ++ [x]) w (.returned v) (((W.drewN nq).setCell ⟨g, q, none⟩ (Value.string x)).setCell ⟨b, 4, none⟩ (.int .i64 ((n : Int) + 1))) := by
  have h1 : Blk (W.drewN nq) b (hdr b m (some ⟨g, 0, none⟩) cs.length f n) 75 := hH
  have h2 := (h1.setOther ⟨g, q, none⟩ (Value.string x) (by simpa using Ne.symm hgb)).set 4 (.int .i64 ((n : Int) + 1))
  have h3 : Blk (W.drewN nq) g (cs.map (Value.string)) 9 := hC
  have h4 := (h3.set q (Value.string x)).setOther ⟨b, 4, none⟩ (.int .i64 ((n : Int) + 1)) (by simpa using hgb)
  rw [← List.map_set] at h4
  refine ⟨⟨_, rfl⟩, some ⟨g, 0, none⟩, g, f, cs.set q x, ⟨?_, .inr rfl, fun _ => ⟨h4, hgb⟩, ?_, by rw [List.length_set]; exact hcm, hm⟩, ?_, ?_⟩
  · rw [List.length_set, List.length_append, hn]; exact h2
  · rw [hq, ← hn]; exact hR.put (by omega) x
  · have ht := hT.drewN nq
    rcases hg with hg | hg
    · exact (ht.setIn hg _).setIn (ringFp_mem b p) _
    · exact (ht.setNew hg _).setIn (ringFp_mem b p) _
  · intro k hk
    simp only [ringFp, Option.map_some, Option.toList_some, List.mem_cons, List.not_mem_nil, or_false] at hk
    rcases hk with rfl | rfl
    · exact .inl (ringFp_mem _ _)
    · exact hg
set_option maxRecDepth 100000 in
set_option maxHeartbeats 1000000 in
theorem pushT_any (b m g : Nat) (p : Option Addr) (f n : Nat) (cs l : List ByteArray) (x : ByteArray) (w : World) (hn : l.length = n) (h : RingAtT w b m g p f cs l) (hl : n < m) :
    Calls Try.prog 44 #[.pointer (some ⟨b, 2, none⟩), Value.string x, .int .i64 m] w (PushDoneT b m p (l ++ [x]) w) := by
  have hle := h.ring.le
  rw [hn] at hle
  have hmost := h.most
  have hroom := h.room
  have hH := h.head
  rw [hn] at hH
  have k2 : w.cell? ⟨b, 2, none⟩ = some (.slice p cs.length cs.length) := hH.cell 2
  have k3 : w.cell? ⟨b, 3, none⟩ = some (.int .i64 f) := hH.cell 3
  have k4 : w.cell? ⟨b, 4, none⟩ = some (.int .i64 n) := hH.cell 4
  by_cases hlt : n < cs.length
  · have hp : p = some ⟨g, 0, none⟩ := by rcases h.row with ⟨_, h0⟩ | hp; omega; exact hp
    obtain ⟨hC, hgb⟩ := h.cells hp
    rw [hp] at hH k2
    have hR := h.ring
    have hfc : f < cs.length := by rcases hR.first with h | h <;> omega
    have hg : g ∈ ringFp b p ∨ w.heap.size ≤ g := .inl (by rw [hp]; simp [ringFp])
    have HN := Lib.hid hn
    have hne : ((n : Int) == (cs.length : Int)) = false := by rw [beq_eq_false_iff_ne]; omega
    have HH := Lib.hid hH
    have HC := Lib.hid hC
    have HR2 := Lib.hid hR
    have HG2 := Lib.hid hg
    clear h hH hC hR hn hp hg
    go_enter Try.func44, Try.ntmps44
    go_wp2_with fail
    go_quiet (fail)
    go_wp2_with fail
    have HH2 := Lib.hid (HH.out.drewN nq)
    have HC2 := Lib.hid (HC.out.drewN nq)
    have HT2 := Lib.hid ((Touch.refl (ringFp b p) w).drewN nq)
    have hlt2 := hlt
    have hcm2 := hmost
    generalize w.drewN nq = W2 at HH2 HC2 HT2 ⊢
    clear HH HC k2 k3 k4 hne
    have t2 : W2.cell? ⟨b, 2, none⟩ = some (.slice (some ⟨g, 0, none⟩) cs.length cs.length) := HH2.out.cell 2
    have t3 : W2.cell? ⟨b, 3, none⟩ = some (.int .i64 (f : Nat)) := HH2.out.cell 3
    have t4 : W2.cell? ⟨b, 4, none⟩ = some (.int .i64 n) := HH2.out.cell 4
    have HPL := Lib.hid (fun d => placeT_any b _ cs.length f n (W2.drewN d) t2 t3 (by omega) (by omega) (by omega) (by omega))
    rw [Int.toNat_natCast] at HPL
    obtain ⟨q, hq⟩ : ∃ q, q = (f + n) % cs.length := ⟨_, rfl⟩
    rw [← hq] at HPL
    have hqc : q < cs.length := by rw [hq]; exact Nat.mod_lt _ (by omega)
    have HQ := Lib.hid hq
    clear hq
    have i1 : (0 : Int) ≤ (q : Int) := by omega
    have i2 : (q : Int) < (cs.length : Int) := by omega
    have hgb1 : b ≠ g := Ne.symm hgb
    refine region_quiet_tail 12 (by kernel_rfl) (by kernel_rfl) ?_
    simp only [List.take_succ_cons, List.take_zero, List.drop_succ_cons, List.drop_zero]
    repeat (go_big_quiet_step (first | (go_at_call 51; refine Calls.quiet_of (HPL.out _))))
    refine wpQuiet_nil ?_
    rintro _ ⟨nq2, rfl⟩
    have e1 : (W2.drewN nq2).cell? ⟨g, q, none⟩ = some (Value.string (cs[q]'hqc)) := by
      have h1 : W2.cell? ⟨g, q, none⟩ = _ := HC2.out.cell q
      rw [List.getElem?_map, List.getElem?_eq_getElem hqc] at h1
      exact h1
    have e2 : (W2.drewN nq2).frozen? ⟨g, q, none⟩ = false := HC2.out.free q
    have hs2 : Blk ((W2.drewN nq2).setCell ⟨g, q, none⟩ (Value.string x)) b (hdr b m (some ⟨g, 0, none⟩) cs.length f n) 75 := (HH2.out.drewN nq2).setOther ⟨g, q, none⟩ (Value.string x) (by simpa using hgb1)
    have e3 : ((W2.drewN nq2).setCell ⟨g, q, none⟩ (Value.string x)).cell? ⟨b, 4, none⟩ = some (.int .i64 n) := hs2.cell 4
    have e4 : ((W2.drewN nq2).setCell ⟨g, q, none⟩ (Value.string x)).frozen? ⟨b, 4, none⟩ = false := hs2.free 4
    have HE := Lib.hid (fun v => push_endT (x := x) HH2.out HC2.out HR2.out HN.out hgb hlt2 hcm2 hroom HQ.out HT2.out HG2.out nq2 v)
    generalize cs[q]'hqc = old at e1
    clear hs2 HPL HH2 HC2 HR2 HQ HT2 HG2
    go_wp2_with fail
    refine bodyPost_ret (results_none rfl _ _ _) rfl ?_
    exact HE.out _
  · have hnc : n = cs.length := by omega
    obtain ⟨N, hN⟩ : ∃ N, N = min (2 * n + 1) m := ⟨_, rfl⟩
    have hL := fun (d : Nat) (z : Int) (hz : z = (N : Int)) => hz ▸ listT_any b g p cs.length f n N l (w.drewN d) k2 k3 k4 (by rcases h.row with h | h; exact .inl h; exact .inr h) cs rfl hn h.ring (by omega) (fun j x hj => h.get j x hj) (by omega) (by omega)
    have HL := Lib.hid hL
    have HN := Lib.hid hn
    have HNN := Lib.hid hN
    have hN1 : n < N := by omega
    have hN2 : N ≤ m := by omega
    have hne : ((n : Int) == (cs.length : Int)) = true := by rw [beq_iff_eq]; omega
    have HH := Lib.hid hH
    have HBL := Lib.hid hH.lt
    clear hL h hH hn hN hnc
    go_enter Try.func44, Try.ntmps44
    go_wp2_with fail
    go_quiet (fail)
    go_wp2_with fail
    all_goals
      refine (HL.out _ _ (by have := HNN.out; omega)).mono ?_
      rintro e w1 ⟨G, rfl, hG, hk, hb1⟩
      rw [HN.out] at hk
      have hlen : (l ++ List.replicate (N - n) ByteArray.empty).length = N := by rw [List.length_append, List.length_replicate, HN.out]; omega
      have hR2 := Is.laid l (List.replicate (N - n) ByteArray.empty)
      generalize l ++ List.replicate (N - n) ByteArray.empty = C2 at hk hlen hR2
      have hH1 := (HH.out.drewN nq).below hb1 HBL.out
      have hs1 := hH1.set 2 (.slice (some ⟨G, 0, none⟩) N N)
      have hs2 := hs1.set 3 (.int .i64 0)
      have a1 : w1.cell? ⟨b, 2, none⟩ = some (.slice p cs.length cs.length) := hH1.cell 2
      have a2 : w1.frozen? ⟨b, 2, none⟩ = false := hH1.free 2
      have a3 : (w1.setCell ⟨b, 2, none⟩ (.slice (some ⟨G, 0, none⟩) N N)).cell? ⟨b, 3, none⟩ = some (.int .i64 f) := hs1.cell 3
      have a4 : (w1.setCell ⟨b, 2, none⟩ (.slice (some ⟨G, 0, none⟩) N N)).frozen? ⟨b, 3, none⟩ = false := hs1.free 3
      have hgb : G ≠ b := fun e => by have := HBL.out; rw [e] at hG; exact absurd hG (by show ¬ w.heap.size ≤ b; omega)
      have hk2 : Blk ((w1.setCell ⟨b, 2, none⟩ (.slice (some ⟨G, 0, none⟩) N N)).setCell ⟨b, 3, none⟩ (.int .i64 0)) G (C2.map (Value.string)) 9 :=
        (Below.heap_setCell _ _ _ _ hgb).trans ((Below.heap_setCell _ _ _ _ hgb).trans hk)
      have HC2 := Lib.hid hk2
      have HH2 := Lib.hid (show Blk ((w1.setCell ⟨b, 2, none⟩ (.slice (some ⟨G, 0, none⟩) N N)).setCell ⟨b, 3, none⟩ (.int .i64 0)) b (hdr b m (some ⟨G, 0, none⟩) C2.length 0 n) 75 by rw [hlen]; exact hs2)
      have HR2 := Lib.hid hR2
      have HT2 := Lib.hid (show Touch (ringFp b p) w ((w1.setCell ⟨b, 2, none⟩ (.slice (some ⟨G, 0, none⟩) N N)).setCell ⟨b, 3, none⟩ (.int .i64 0)) from
        ((Touch.of_below ((below_drewN (Below.refl w.heap.size w) nq).trans (hb1.mono (Nat.le_refl _)))).setIn (ringFp_mem b p) _).setIn (ringFp_mem b p) _)
      have HG2 := Lib.hid (show G ∈ ringFp b p ∨ w.heap.size ≤ G from .inr hG)
      have hlt2 : n < C2.length := by omega
      have hcm2 : C2.length ≤ m := by omega
      have HB1 := Lib.hid hb1
      clear hG hk hb1 hH1 hs1 hs2 hk2 hlen hR2 k2 k3 k4
      go_wp2_with fail
      generalize (w1.setCell ⟨b, 2, none⟩ (.slice (some ⟨G, 0, none⟩) N N)).setCell ⟨b, 3, none⟩ (.int .i64 0) = W2 at HH2 HC2 HT2 ⊢
      clear a1 a2 a3 a4
      have t2 : W2.cell? ⟨b, 2, none⟩ = some (.slice (some ⟨G, 0, none⟩) C2.length C2.length) := HH2.out.cell 2
      have t3 : W2.cell? ⟨b, 3, none⟩ = some (.int .i64 (0 : Nat)) := HH2.out.cell 3
      have t4 : W2.cell? ⟨b, 4, none⟩ = some (.int .i64 n) := HH2.out.cell 4
      have HPL := Lib.hid (fun d => placeT_any b _ C2.length 0 n (W2.drewN d) t2 t3 (by omega) (by omega) (by omega) (by omega))
      rw [Int.toNat_natCast] at HPL
      obtain ⟨q, hq⟩ : ∃ q, q = (0 + n) % C2.length := ⟨_, rfl⟩
      rw [← hq] at HPL
      have hqc : q < C2.length := by rw [hq]; exact Nat.mod_lt _ (by omega)
      have HQ := Lib.hid hq
      clear hq
      have i1 : (0 : Int) ≤ (q : Int) := by omega
      have i2 : (q : Int) < (C2.length : Int) := by omega
      have hgb1 : b ≠ G := Ne.symm hgb
      refine region_quiet_tail 12 (by kernel_rfl) (by kernel_rfl) ?_
      simp only [List.take_succ_cons, List.take_zero, List.drop_succ_cons, List.drop_zero]
      repeat (go_big_quiet_step (first | (go_at_call 51; refine Calls.quiet_of (HPL.out _))))
      refine wpQuiet_nil ?_
      rintro _ ⟨nq2, rfl⟩
      have e1 : (W2.drewN nq2).cell? ⟨G, q, none⟩ = some (Value.string (C2[q]'hqc)) := by
        have h1 : W2.cell? ⟨G, q, none⟩ = _ := HC2.out.cell q
        rw [List.getElem?_map, List.getElem?_eq_getElem hqc] at h1
        exact h1
      have e2 : (W2.drewN nq2).frozen? ⟨G, q, none⟩ = false := HC2.out.free q
      have hs2 : Blk ((W2.drewN nq2).setCell ⟨G, q, none⟩ (Value.string x)) b (hdr b m (some ⟨G, 0, none⟩) C2.length 0 n) 75 := (HH2.out.drewN nq2).setOther ⟨G, q, none⟩ (Value.string x) (by simpa using hgb1)
      have e3 : ((W2.drewN nq2).setCell ⟨G, q, none⟩ (Value.string x)).cell? ⟨b, 4, none⟩ = some (.int .i64 n) := hs2.cell 4
      have e4 : ((W2.drewN nq2).setCell ⟨G, q, none⟩ (Value.string x)).frozen? ⟨b, 4, none⟩ = false := hs2.free 4
      have HE := Lib.hid (fun v => push_endT (x := x) HH2.out HC2.out HR2.out HN.out hgb hlt2 hcm2 hroom HQ.out HT2.out HG2.out nq2 v)
      generalize C2[q]'hqc = old at e1
      clear hs2 HPL HH2 HC2 HR2 HQ HT2 HG2
      go_wp2_with fail
      refine bodyPost_ret (results_none rfl _ _ _) rfl ?_
      exact HE.out _
end Go.Proofs.Ytnpageceaknofaa
