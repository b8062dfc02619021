/-
  What is asked of the program's views; the chapter's examples.
-/
import Derived.Test.YtocfcfoocmkkdaaQ9
namespace Go.Proofs.Ytocfcfoocmkkdaa
section
set_option linter.unusedSimpArgs false
set_option linter.unusedVariables false
open Go.RowKit Sha
/-- What the program's calls tell (lists of at most 400 words). -/
structure ViewOK : Prop where
  check : ∀ (l : List Mb) (n : Nat) (q : Option Addr) (c : Nat) (w : World), l.length = n → GoodW w l q c → n ≤ 400 → Calls Try.prog 20 #[.slice q n c] w (ErrDone (Vw.err l) w)
  get : ∀ (l : List Mb) (n : Nat) (q : Option Addr) (c : Nat) (nd : Int) (w : World), l.length = n → GoodW w l q c → n ≤ 400 → (-9223372036854775808 ≤ nd ∧ nd ≤ 9223372036854775807) → Calls Try.prog 13 #[.slice q n c, .int .i64 nd] w (GetDone (Vw.get l nd) w)
  live : ∀ (l : List Mb) (n : Nat) (q : Option Addr) (c : Nat) (w : World), l.length = n → GoodW w l q c → n ≤ 400 → Calls Try.prog 15 #[.slice q n c] w (NumsDone w (Vw.live l) w)
  alive : ∀ (l : List Mb) (n : Nat) (q : Option Addr) (c : Nat) (w : World), l.length = n → GoodW w l q c → n ≤ 400 → Calls Try.prog 16 #[.slice q n c] w (NumsDone w (Vw.alive l) w)
  same : ∀ (l l' : List Mb) (n m : Nat) (q p : Option Addr) (c d : Nat) (w : World), l.length = n → l'.length = m → GoodW w l q c → GoodW w l' p d → n ≤ 400 → m ≤ 400 → Calls Try.prog 22 #[.slice q n c, .slice p m d] w (BoolDone (decide (l = l')) w)
  merge : ∀ (l l' : List Mb) (n m : Nat) (q p : Option Addr) (c d : Nat) (w : World), l.length = n → l'.length = m → GoodW w l q c → GoodW w l' p d → n ≤ 400 → m ≤ 400 → Calls Try.prog 10 #[.slice q n c, .slice p m d] w (MrgDone (Vw.mrg l l') w)
theorem run_buildM2 (w : World) (a b : Mb) : (buildM 22 2 #[(0, mv a), (1, mv b)]).run Try.prog w = .ok (.value (.slice (some ⟨w.heap.size, 0, none⟩) 2 2)) (w.alloc (.cells ([a, b].flatMap mc).toArray mt)) := by
  have := run_build_items (P := Try.prog) w 22 mt 3 _ (by omega) Try.underlying22 mem_zs [mc a, mc b] (by intro c hc; simp at hc; rcases hc with rfl | rfl <;> rfl) (by simp)
  unfold buildM; simp only [Sem.run_bind]
  rw [show (Instr.buildSlice 22 2 #[(0, mv a), (1, mv b)]).run Try.prog w = _ from this]; rfl
theorem run_buildM3 (w : World) (a b c : Mb) : (buildM 22 3 #[(0, mv a), (1, mv b), (2, mv c)]).run Try.prog w = .ok (.value (.slice (some ⟨w.heap.size, 0, none⟩) 3 3)) (w.alloc (.cells ([a, b, c].flatMap mc).toArray mt)) := by
  have := run_build_items (P := Try.prog) w 22 mt 3 _ (by omega) Try.underlying22 mem_zs [mc a, mc b, mc c] (by intro c hc; simp at hc; rcases hc with rfl | rfl | rfl <;> rfl) (by simp)
  unfold buildM; simp only [Sem.run_bind]
  rw [show (Instr.buildSlice 22 3 #[(0, mv a), (1, mv b), (2, mv c)]).run Try.prog w = _ from this]; rfl
/-- A row of words just made. -/
structure NewW (w0 : World) (l : List Mb) (g : Nat) (w : World) : Prop where
  blk : Blk w g (l.flatMap mc) mt
  le : w0.heap.size ≤ g
  below : Below w0.heap.size w0 w
theorem NewW.made (w : World) (l : List Mb) : NewW w l w.heap.size (w.alloc (.cells (l.flatMap mc).toArray mt)) := ⟨Blk.new w (l.flatMap mc).toArray mt, Nat.le_refl _, (Below.refl _ _).alloc (Nat.le_refl _) _⟩
theorem NewW.on {w0 w w' : World} {l : List Mb} {g : Nat} (h : NewW w0 l g w) (hb : Below w.heap.size w w') : NewW w0 l g w' := ⟨h.blk.upon hb, h.le, below_next h.below hb⟩
theorem NewW.good {w0 w : World} {l : List Mb} {g n : Nat} (h : NewW w0 l g w) (hok : ∀ x ∈ l, x.ok) (hn : l.length = n) (hm : n ≤ 1000) : GoodW w l (some ⟨g, 0, none⟩) n := goodW_blk (rest := []) (by simpa using h.blk) hok hn (Nat.le_refl _) (by unfold maxLen; omega)
theorem NewW.load {w0 w : World} {l : List Mb} {g : Nat} (h : NewW w0 l g w) (k : Nat) (hk : k < l.length) : (loadM mt (.pointer (some ⟨g, k * 3, none⟩))).run Try.prog w = .ok (.value (mv l[k])) w := run_loadM (rangeW (rest := []) (by simpa using h.blk) k hk)
def v1 : Mb := ⟨1, 1, 0⟩
def v3 : Mb := ⟨3, 2, 2⟩
def u3 : Mb := ⟨3, 1, 3⟩
def u2 : Mb := ⟨2, 3, 1⟩
theorem v_ok : ∀ x ∈ [v1, v3], x.ok := by intro x hx; simp at hx; rcases hx with rfl | rfl <;> exact ⟨by decide, by decide, by decide⟩
theorem u_ok : ∀ x ∈ [u3, u2, v1], x.ok := by intro x hx; simp at hx; rcases hx with rfl | rfl | rfl <;> exact ⟨by decide, by decide, by decide⟩
theorem x_ok : ∀ x ∈ [v1, u2, u3], x.ok := by intro x hx; simp at hx; rcases hx with rfl | rfl | rfl <;> exact ⟨by decide, by decide, by decide⟩
theorem y_ok : ∀ x ∈ [u2, u3], x.ok := by intro x hx; simp at hx; rcases hx with rfl | rfl <;> exact ⟨by decide, by decide, by decide⟩
theorem mrg_ex : Vw.mrg [v1, v3] [u3, u2, v1] = ([v1, u2, u3], [u2, u3], 0) := by decide +kernel
def TwoDone (w : World) (e : Ending) (w' : World) : Prop := ∃ g, e = .returned (.slice (some ⟨g, 0, none⟩) 2 2) ∧ NewW w [v1, v3] g w'
section
attribute [local go_sem ↓] execOp_loadM execOp_storeM execOp_eqlM execOp_neqM execOp_buildM
set_option maxHeartbeats 1000000 in
theorem two_any (w : World) : Calls Try.prog 25 #[] w (TwoDone w) := by
  have c0 : (buildM 22 2 #[(0, .agg #[.int .i64 1, .int .i64 1, .int .i64 0]), (1, .agg #[.int .i64 3, .int .i64 2, .int .i64 2])]).run Try.prog w = .ok (.value (.slice (some ⟨(w).heap.size, 0, none⟩) 2 2)) ((w).alloc (.cells ([v1, v3].flatMap mc).toArray mt)) := run_buildM2 (w) v1 v3
  have N0 := Lib.hid (NewW.made w [v1, v3])
  go_enter Try.func25, Try.ntmps25
  generalize w.alloc (.cells ([v1, v3].flatMap mc).toArray mt) = w1 at *
  go_wp2_with fail
  go_ret
  exact ⟨w.heap.size, rfl, N0.out⟩
set_option maxRecDepth 100000 in
set_option maxHeartbeats 4000000 in
theorem awake_any (V : ViewOK) (w : World) : Calls Try.prog 9 #[] w (BoolDone true w) := by
  have c0 : (buildM 22 3 #[(0, .agg #[.int .i64 3, .int .i64 1, .int .i64 3]), (1, .agg #[.int .i64 2, .int .i64 3, .int .i64 1]), (2, .agg #[.int .i64 1, .int .i64 1, .int .i64 0])]).run Try.prog w = .ok (.value (.slice (some ⟨(w).heap.size, 0, none⟩) 3 3)) ((w).alloc (.cells ([u3, u2, v1].flatMap mc).toArray mt)) := run_buildM3 (w) u3 u2 v1
  have N0 := Lib.hid (NewW.made w [u3, u2, v1])
  go_enter Try.func9, Try.ntmps9
  generalize w.alloc (.cells ([u3, u2, v1].flatMap mc).toArray mt) = w1 at *
  go_wp2_with fail
  refine (two_any _).mono ?_
  rintro e w2 ⟨g2, rfl, N2⟩
  have N1 := Lib.hid (N0.out.on N2.below)
  have HM := Lib.hid (V.merge [v1, v3] [u3, u2, v1] 2 3 _ _ 2 3 w2 rfl rfl (N2.good v_ok rfl (by omega)) (N1.out.good u_ok rfl (by omega)) (by omega) (by omega))
  rw [mrg_ex] at HM
  clear N2 N0
  generalize w.heap.size = gw at *
  go_wp2_with fail
  refine HM.out.mono ?_
  rintro e w3 ⟨r1, r2, rfl, ho1, ho2, _, hb3⟩
  have ho1 : w3.ownsRow w2.heap.size mt 3 r1 3 ([v1, u2, u3].flatMap mc) := ho1
  have ho2 : w3.ownsRow w2.heap.size mt 3 r2 2 ([u2, u3].flatMap mc) := ho2
  obtain ⟨q1, k1, rfl, hg1⟩ := own_good ho1 x_ok
  obtain ⟨q2, k2, rfl, hg2⟩ := own_good ho2 y_ok
  have N3 := Lib.hid (N1.out.on hb3)
  have B3 := Lib.hid N3.out.below
  have HG1 := Lib.hid hg1
  have HG2 := Lib.hid hg2
  have f1 := hg1.le
  have f2 := hg2.le
  have f3 := hg1.max
  have f4 := hg2.max
  simp only [List.length_cons, List.length_nil] at f1 f2
  clear ho1 ho2 hg1 hg2 hb3 HM c0 N1
  have E1 := Lib.hid (fun W (hb : Below w3.heap.size w3 W) => show (loadM mt (.pointer (some ⟨gw, 0, none⟩))).run Try.prog W = .ok (.value (mv u3)) W from (N3.out.on hb).load 0 (by decide))
  have E2 := Lib.hid (fun W (hb : Below w3.heap.size w3 W) => show (loadM mt (.pointer (some ⟨gw, 3, none⟩))).run Try.prog W = .ok (.value (mv u2)) W from (N3.out.on hb).load 1 (by decide))
  go_wp2_with fail
  refine wp_region_held_drew (S := (fun w' => Below w3.heap.size w3 w' ∧ (loadM mt (.pointer (some ⟨gw, 0, none⟩))).run Try.prog w' = .ok (.value (mv u3)) w' ∧ (loadM mt (.pointer (some ⟨gw, 3, none⟩))).run Try.prog w' = .ok (.value (mv u2)) w')) (by kernel_rfl) ⟨(by (repeat (first | exact Below.refl _ _ | assumption | refine below_put0 ?_ _ | exact below_row0 (by assumption) _ | refine below_drew0 ?_ | refine below_alloc0 ?_ _))), E1.out _ (by (repeat (first | exact Below.refl _ _ | assumption | refine below_put0 ?_ _ | exact below_row0 (by assumption) _ | refine below_drew0 ?_ | refine below_alloc0 ?_ _))), E2.out _ (by (repeat (first | exact Below.refl _ _ | assumption | refine below_put0 ?_ _ | exact below_row0 (by assumption) _ | refine below_drew0 ?_ | refine below_alloc0 ?_ _)))⟩ (fun hHeld => ?_)
  refine take_at 0 (by kernel_rfl) (v := ?v1) (by kernel_rfl) (by kernel_rfl) (by kernel_rfl) (fun _ _ _ h => h) (by rfl) ?y1 (by assumption) ?r1
  case y1 => (intro w hSw; (try dsimp only at hSw); simp only [List.getElem_cons_succ, List.getElem_cons_zero]; go_simp; (try with_reducible rfl))
  try simp only [List.getElem_cons_succ, List.getElem_cons_zero, Act.put, List.setIfInBounds_toArray, List.set_cons_zero, List.set_cons_succ]
  refine take_at 1 (by kernel_rfl) (v := ?v2) (by kernel_rfl) (by kernel_rfl) (by kernel_rfl) (fun _ _ _ h => h) (by rfl) ?y2 (by assumption) ?r2
  case y2 => (intro w hSw; (try dsimp only at hSw); simp only [List.getElem_cons_succ, List.getElem_cons_zero]; go_simp; (try with_reducible rfl))
  try simp only [List.getElem_cons_succ, List.getElem_cons_zero, Act.put, List.setIfInBounds_toArray, List.set_cons_zero, List.set_cons_succ]
  refine take_at 2 (by kernel_rfl) (v := ?v3) (by kernel_rfl) (by kernel_rfl) (by kernel_rfl) (fun _ _ _ h => h) (by rfl) ?y3 (by assumption) ?r3
  case y3 => (intro w hSw; (try dsimp only at hSw); simp only [List.getElem_cons_succ, List.getElem_cons_zero]; go_simp; (try with_reducible rfl))
  try simp only [List.getElem_cons_succ, List.getElem_cons_zero, Act.put, List.setIfInBounds_toArray, List.set_cons_zero, List.set_cons_succ]
  refine take_at 3 (by kernel_rfl) (v := ?v4) (by kernel_rfl) (by kernel_rfl) (by kernel_rfl) (fun _ _ _ h => h) (by rfl) ?y4 (by assumption) ?r4
  case y4 => (intro w hSw; (try dsimp only at hSw); simp only [List.getElem_cons_succ, List.getElem_cons_zero]; go_simp; (try with_reducible rfl))
  try simp only [List.getElem_cons_succ, List.getElem_cons_zero, Act.put, List.setIfInBounds_toArray, List.set_cons_zero, List.set_cons_succ]
  refine take_at 7 (by kernel_rfl) (v := ?v5) (by kernel_rfl) (by kernel_rfl) (by kernel_rfl) (fun _ _ _ h => h) (by rfl) ?y5 (by assumption) ?r5
  case y5 => (intro w hSw; (try dsimp only at hSw); simp only [List.getElem_cons_succ, List.getElem_cons_zero]; go_simp; (try with_reducible rfl))
  try simp only [List.getElem_cons_succ, List.getElem_cons_zero, Act.put, List.setIfInBounds_toArray, List.set_cons_zero, List.set_cons_succ]
  refine take_at 8 (by kernel_rfl) (v := ?v6) (by kernel_rfl) (by kernel_rfl) (by kernel_rfl) (fun _ _ _ h => h) (by rfl) ?y6 (by assumption) ?r6
  case y6 => (intro w hSw; (try dsimp only at hSw); simp only [List.getElem_cons_succ, List.getElem_cons_zero]; go_simp; (try with_reducible rfl))
  try simp only [List.getElem_cons_succ, List.getElem_cons_zero, Act.put, List.setIfInBounds_toArray, List.set_cons_zero, List.set_cons_succ]
  refine take_at 9 (by kernel_rfl) (v := ?v7) (by kernel_rfl) (by kernel_rfl) (by kernel_rfl) (fun _ _ _ h => h) (by rfl) ?y7 (by assumption) ?r7
  case y7 => (intro w hSw; (try dsimp only at hSw); simp only [List.getElem_cons_succ, List.getElem_cons_zero]; go_simp; (try with_reducible rfl))
  try simp only [List.getElem_cons_succ, List.getElem_cons_zero, Act.put, List.setIfInBounds_toArray, List.set_cons_zero, List.set_cons_succ]
  refine take_at 10 (by kernel_rfl) (v := ?v8) (by kernel_rfl) (by kernel_rfl) (by kernel_rfl) (fun _ _ _ h => h) (by rfl) ?y8 (by assumption) ?r8
  case y8 => (intro w hSw; (try dsimp only at hSw); simp only [List.getElem_cons_succ, List.getElem_cons_zero]; go_simp; (try with_reducible rfl))
  try simp only [List.getElem_cons_succ, List.getElem_cons_zero, Act.put, List.setIfInBounds_toArray, List.set_cons_zero, List.set_cons_succ]
  refine take_at 11 (by kernel_rfl) (v := ?v9) (by kernel_rfl) (by kernel_rfl) (by kernel_rfl) (fun _ _ _ h => h) (by rfl) ?y9 (by assumption) ?r9
  case y9 => (intro w hSw; (try dsimp only at hSw); simp only [List.getElem_cons_succ, List.getElem_cons_zero]; go_simp; (try with_reducible rfl))
  try simp only [List.getElem_cons_succ, List.getElem_cons_zero, Act.put, List.setIfInBounds_toArray, List.set_cons_zero, List.set_cons_succ]
  refine take_at 12 (by kernel_rfl) (v := ?v10) (by kernel_rfl) (by kernel_rfl) (by kernel_rfl) (fun _ _ _ h => h) (by rfl) ?y10 (by assumption) ?r10
  case y10 => (intro w hSw; (try dsimp only at hSw); simp only [List.getElem_cons_succ, List.getElem_cons_zero]; go_simp; (try with_reducible rfl))
  try simp only [List.getElem_cons_succ, List.getElem_cons_zero, Act.put, List.setIfInBounds_toArray, List.set_cons_zero, List.set_cons_succ]
  refine ready_at 4 (by kernel_rfl) (by kernel_rfl) (fun K hK => ?_)
  simp only [List.getElem_cons_succ, List.getElem_cons_zero]
  go_simp
  go_at_call 25
  refine (two_any _).mono ?_
  rintro e w4 ⟨g4, rfl, N4⟩
  have hb4 : Below w3.heap.size w3 w4 := below_next (Below.refl _ _).drew N4.below
  have l4 : (loadM mt (.pointer (some ⟨g4, 0, none⟩))).run Try.prog w4 = .ok (.value (mv v1)) w4 := N4.load 0 (by decide)
  have c4 := run_buildM3 w4 v1 u2 u3
  have A4 := NewW.made w4 [v1, u2, u3]
  have hb4a := below_next hb4 A4.below
  have HS4 := Lib.hid (sameM_any [v1, u2, u3] [v1, u2, u3] 3 3 q1 _ k1 3 _ rfl rfl (HG1.out.below hb4a) (A4.good x_ok rfl (by omega)))
  generalize w4.alloc (.cells ([v1, u2, u3].flatMap mc).toArray mt) = w4a at *
  clear N4 A4
  (try go_wp2_with fail)
  refine hK.out _ _ ⟨(by (repeat (first | exact Below.refl _ _ | assumption | refine below_put0 ?_ _ | exact below_row0 (by assumption) _ | refine below_drew0 ?_ | refine below_alloc0 ?_ _))), E1.out _ (by (repeat (first | exact Below.refl _ _ | assumption | refine below_put0 ?_ _ | exact below_row0 (by assumption) _ | refine below_drew0 ?_ | refine below_alloc0 ?_ _))), E2.out _ (by (repeat (first | exact Below.refl _ _ | assumption | refine below_put0 ?_ _ | exact below_row0 (by assumption) _ | refine below_drew0 ?_ | refine below_alloc0 ?_ _)))⟩ (fun hHeld => ?_)
  clear hK K
  try simp only [List.getElem_cons_succ, List.getElem_cons_zero, Act.put, List.setIfInBounds_toArray, List.set_cons_zero, List.set_cons_succ]
  refine take_at 5 (by kernel_rfl) (v := ?v11) (by kernel_rfl) (by kernel_rfl) (by kernel_rfl) (fun _ _ _ h => h) (by rfl) ?y11 (by assumption) ?r11
  case y11 => (intro w hSw; (try dsimp only at hSw); simp only [List.getElem_cons_succ, List.getElem_cons_zero]; go_simp; (try with_reducible rfl))
  try simp only [List.getElem_cons_succ, List.getElem_cons_zero, Act.put, List.setIfInBounds_toArray, List.set_cons_zero, List.set_cons_succ]
  refine ready_at 6 (by kernel_rfl) (by kernel_rfl) (fun K hK => ?_)
  simp only [List.getElem_cons_succ, List.getElem_cons_zero]
  go_simp
  refine hK.out _ _ ⟨(by (repeat (first | exact Below.refl _ _ | assumption | refine below_put0 ?_ _ | exact below_row0 (by assumption) _ | refine below_drew0 ?_ | refine below_alloc0 ?_ _))), E1.out _ (by (repeat (first | exact Below.refl _ _ | assumption | refine below_put0 ?_ _ | exact below_row0 (by assumption) _ | refine below_drew0 ?_ | refine below_alloc0 ?_ _))), E2.out _ (by (repeat (first | exact Below.refl _ _ | assumption | refine below_put0 ?_ _ | exact below_row0 (by assumption) _ | refine below_drew0 ?_ | refine below_alloc0 ?_ _)))⟩ (fun hHeld => ?_)
  clear hK K
  try simp only [List.getElem_cons_succ, List.getElem_cons_zero, Act.put, List.setIfInBounds_toArray, List.set_cons_zero, List.set_cons_succ]
  refine ready_at 13 (by kernel_rfl) (by kernel_rfl) (fun K hK => ?_)
  simp only [List.getElem_cons_succ, List.getElem_cons_zero]
  go_simp
  refine hK.out _ _ ⟨(by (repeat (first | exact Below.refl _ _ | assumption | refine below_put0 ?_ _ | exact below_row0 (by assumption) _ | refine below_drew0 ?_ | refine below_alloc0 ?_ _))), E1.out _ (by (repeat (first | exact Below.refl _ _ | assumption | refine below_put0 ?_ _ | exact below_row0 (by assumption) _ | refine below_drew0 ?_ | refine below_alloc0 ?_ _))), E2.out _ (by (repeat (first | exact Below.refl _ _ | assumption | refine below_put0 ?_ _ | exact below_row0 (by assumption) _ | refine below_drew0 ?_ | refine below_alloc0 ?_ _)))⟩ (fun hHeld => ?_)
  clear hK K
  try simp only [List.getElem_cons_succ, List.getElem_cons_zero, Act.put, List.setIfInBounds_toArray, List.set_cons_zero, List.set_cons_succ]
  refine ready_at 14 (by kernel_rfl) (by kernel_rfl) (fun K hK => ?_)
  simp only [List.getElem_cons_succ, List.getElem_cons_zero]
  go_simp
  go_at_call 12
  refine HS4.out.mono ?_
  rintro e w5 ⟨rfl, hb5⟩
  have hb5 : Below w3.heap.size w3 w5 := below_next hb4a hb5
  have c5 := run_buildM2 w5 u2 u3
  have A5 := NewW.made w5 [u2, u3]
  have hb5a := below_next hb5 A5.below
  have HS5 := Lib.hid (sameM_any [u2, u3] [u2, u3] 2 2 q2 _ k2 2 _ rfl rfl (HG2.out.below hb5a) (A5.good y_ok rfl (by omega)))
  generalize w5.alloc (.cells ([u2, u3].flatMap mc).toArray mt) = w5a at *
  clear A5
  (try go_wp2_with fail)
  refine hK.out _ _ ⟨(by (repeat (first | exact Below.refl _ _ | assumption | refine below_put0 ?_ _ | exact below_row0 (by assumption) _ | refine below_drew0 ?_ | refine below_alloc0 ?_ _))), E1.out _ (by (repeat (first | exact Below.refl _ _ | assumption | refine below_put0 ?_ _ | exact below_row0 (by assumption) _ | refine below_drew0 ?_ | refine below_alloc0 ?_ _))), E2.out _ (by (repeat (first | exact Below.refl _ _ | assumption | refine below_put0 ?_ _ | exact below_row0 (by assumption) _ | refine below_drew0 ?_ | refine below_alloc0 ?_ _)))⟩ (fun hHeld => ?_)
  clear hK K
  try simp only [List.getElem_cons_succ, List.getElem_cons_zero, Act.put, List.setIfInBounds_toArray, List.set_cons_zero, List.set_cons_succ]
  refine take_at 15 (by kernel_rfl) (v := ?v12) (by kernel_rfl) (by kernel_rfl) (by kernel_rfl) (fun _ _ _ h => h) (by rfl) ?y12 (by assumption) ?r12
  case y12 => (intro w hSw; (try dsimp only at hSw); simp only [List.getElem_cons_succ, List.getElem_cons_zero]; go_simp; (try with_reducible rfl))
  try simp only [List.getElem_cons_succ, List.getElem_cons_zero, Act.put, List.setIfInBounds_toArray, List.set_cons_zero, List.set_cons_succ]
  refine take_at 16 (by kernel_rfl) (v := ?v13) (by kernel_rfl) (by kernel_rfl) (by kernel_rfl) (fun _ _ _ h => h) (by rfl) ?y13 (by assumption) ?r13
  case y13 => (intro w hSw; (try dsimp only at hSw); simp only [List.getElem_cons_succ, List.getElem_cons_zero]; go_simp; (try with_reducible rfl))
  try simp only [List.getElem_cons_succ, List.getElem_cons_zero, Act.put, List.setIfInBounds_toArray, List.set_cons_zero, List.set_cons_succ]
  refine take_at 17 (by kernel_rfl) (v := ?v14) (by kernel_rfl) (by kernel_rfl) (by kernel_rfl) (fun _ _ _ h => h) (by rfl) ?y14 (by assumption) ?r14
  case y14 => (intro w hSw; (try dsimp only at hSw); simp only [List.getElem_cons_succ, List.getElem_cons_zero]; go_simp; (try with_reducible rfl))
  try simp only [List.getElem_cons_succ, List.getElem_cons_zero, Act.put, List.setIfInBounds_toArray, List.set_cons_zero, List.set_cons_succ]
  refine take_at 18 (by kernel_rfl) (v := ?v15) (by kernel_rfl) (by kernel_rfl) (by kernel_rfl) (fun _ _ _ h => h) (by rfl) ?y15 (by assumption) ?r15
  case y15 => (intro w hSw; (try dsimp only at hSw); simp only [List.getElem_cons_succ, List.getElem_cons_zero]; go_simp; (try with_reducible rfl))
  try simp only [List.getElem_cons_succ, List.getElem_cons_zero, Act.put, List.setIfInBounds_toArray, List.set_cons_zero, List.set_cons_succ]
  refine take_at 19 (by kernel_rfl) (v := ?v16) (by kernel_rfl) (by kernel_rfl) (by kernel_rfl) (fun _ _ _ h => h) (by rfl) ?y16 (by assumption) ?r16
  case y16 => (intro w hSw; (try dsimp only at hSw); simp only [List.getElem_cons_succ, List.getElem_cons_zero]; go_simp; (try with_reducible rfl))
  try simp only [List.getElem_cons_succ, List.getElem_cons_zero, Act.put, List.setIfInBounds_toArray, List.set_cons_zero, List.set_cons_succ]
  refine take_at 20 (by kernel_rfl) (v := ?v17) (by kernel_rfl) (by kernel_rfl) (by kernel_rfl) (fun _ _ _ h => h) (by rfl) ?y17 (by assumption) ?r17
  case y17 => (intro w hSw; (try dsimp only at hSw); simp only [List.getElem_cons_succ, List.getElem_cons_zero]; go_simp; (try with_reducible rfl))
  try simp only [List.getElem_cons_succ, List.getElem_cons_zero, Act.put, List.setIfInBounds_toArray, List.set_cons_zero, List.set_cons_succ]
  refine take_at 21 (by kernel_rfl) (v := ?v18) (by kernel_rfl) (by kernel_rfl) (by kernel_rfl) (fun _ _ _ h => h) (by rfl) ?y18 (by assumption) ?r18
  case y18 => (intro w hSw; (try dsimp only at hSw); simp only [List.getElem_cons_succ, List.getElem_cons_zero]; go_simp; (try with_reducible rfl))
  try simp only [List.getElem_cons_succ, List.getElem_cons_zero, Act.put, List.setIfInBounds_toArray, List.set_cons_zero, List.set_cons_succ]
  refine take_at 22 (by kernel_rfl) (v := ?v19) (by kernel_rfl) (by kernel_rfl) (by kernel_rfl) (fun _ _ _ h => h) (by rfl) ?y19 (by assumption) ?r19
  case y19 => (intro w hSw; (try dsimp only at hSw); simp only [List.getElem_cons_succ, List.getElem_cons_zero]; go_simp; (try with_reducible rfl))
  try simp only [List.getElem_cons_succ, List.getElem_cons_zero, Act.put, List.setIfInBounds_toArray, List.set_cons_zero, List.set_cons_succ]
  refine take_at 23 (by kernel_rfl) (v := ?v20) (by kernel_rfl) (by kernel_rfl) (by kernel_rfl) (fun _ _ _ h => h) (by rfl) ?y20 (by assumption) ?r20
  case y20 => (intro w hSw; (try dsimp only at hSw); simp only [List.getElem_cons_succ, List.getElem_cons_zero]; go_simp; (try with_reducible rfl))
  try simp only [List.getElem_cons_succ, List.getElem_cons_zero, Act.put, List.setIfInBounds_toArray, List.set_cons_zero, List.set_cons_succ]
  refine ready_at 24 (by kernel_rfl) (by kernel_rfl) (fun K hK => ?_)
  simp only [List.getElem_cons_succ, List.getElem_cons_zero]
  go_simp
  refine hK.out _ _ ⟨(by (repeat (first | exact Below.refl _ _ | assumption | refine below_put0 ?_ _ | exact below_row0 (by assumption) _ | refine below_drew0 ?_ | refine below_alloc0 ?_ _))), E1.out _ (by (repeat (first | exact Below.refl _ _ | assumption | refine below_put0 ?_ _ | exact below_row0 (by assumption) _ | refine below_drew0 ?_ | refine below_alloc0 ?_ _))), E2.out _ (by (repeat (first | exact Below.refl _ _ | assumption | refine below_put0 ?_ _ | exact below_row0 (by assumption) _ | refine below_drew0 ?_ | refine below_alloc0 ?_ _)))⟩ (fun hHeld => ?_)
  clear hK K
  try simp only [List.getElem_cons_succ, List.getElem_cons_zero, Act.put, List.setIfInBounds_toArray, List.set_cons_zero, List.set_cons_succ]
  refine ready_at 25 (by kernel_rfl) (by kernel_rfl) (fun K hK => ?_)
  simp only [List.getElem_cons_succ, List.getElem_cons_zero]
  go_simp
  go_at_call 12
  refine HS5.out.mono ?_
  rintro e w6 ⟨rfl, hb6⟩
  have hb6 : Below w3.heap.size w3 w6 := below_next hb5a hb6
  (try go_wp2_with fail)
  refine hK.out _ _ ⟨(by (repeat (first | exact Below.refl _ _ | assumption | refine below_put0 ?_ _ | exact below_row0 (by assumption) _ | refine below_drew0 ?_ | refine below_alloc0 ?_ _))), E1.out _ (by (repeat (first | exact Below.refl _ _ | assumption | refine below_put0 ?_ _ | exact below_row0 (by assumption) _ | refine below_drew0 ?_ | refine below_alloc0 ?_ _))), E2.out _ (by (repeat (first | exact Below.refl _ _ | assumption | refine below_put0 ?_ _ | exact below_row0 (by assumption) _ | refine below_drew0 ?_ | refine below_alloc0 ?_ _)))⟩ (fun hHeld => ?_)
  clear hK K
  try simp only [List.getElem_cons_succ, List.getElem_cons_zero, Act.put, List.setIfInBounds_toArray, List.set_cons_zero, List.set_cons_succ]
  refine take_at 26 (by kernel_rfl) (v := ?v21) (by kernel_rfl) (by kernel_rfl) (by kernel_rfl) (fun _ _ _ h => h) (by rfl) ?y21 (by assumption) ?r21
  case y21 => (intro w hSw; (try dsimp only at hSw); simp only [List.getElem_cons_succ, List.getElem_cons_zero]; go_simp; (try with_reducible rfl))
  try simp only [List.getElem_cons_succ, List.getElem_cons_zero, Act.put, List.setIfInBounds_toArray, List.set_cons_zero, List.set_cons_succ]
  refine take_at 27 (by kernel_rfl) (v := ?v22) (by kernel_rfl) (by kernel_rfl) (by kernel_rfl) (fun _ _ _ h => h) (by rfl) ?y22 (by assumption) ?r22
  case y22 => (intro w hSw; (try dsimp only at hSw); simp only [List.getElem_cons_succ, List.getElem_cons_zero]; go_simp; (try with_reducible rfl))
  try simp only [List.getElem_cons_succ, List.getElem_cons_zero, Act.put, List.setIfInBounds_toArray, List.set_cons_zero, List.set_cons_succ]
  refine wpAnyH_done (by kernel_rfl) ?_ _
  go_wp2_with fail
  go_ret
  exact ⟨rfl, below_next B3.out hb6⟩
end
end
end Go.Proofs.Ytocfcfoocmkkdaa
