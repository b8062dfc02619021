/-
  The program's slices.Insert at int: a thing laid into a row of the call's own (written by mkins14.py from Ins.src).
-/
import Derived.Test.YtfoomffbjjcjjaaSlcN
import Derived.Deep.RegionLaw
namespace Go.Proofs.Ytfoomffbjjcjjaa
set_option linter.unusedSimpArgs false
set_option linter.unusedVariables false
open Go.RowKit Sha
theorem info_I : (Try.prog.info? 3).map (fun i => (i.zero, i.size, i.bytes)) = some (some (.int .i64 0), 1, 8) := by kernel_rfl
theorem isize_I : (Try.prog.info? 3).map (fun i => i.size) = some 1 := by
  have h := info_I
  cases hq : Try.prog.info? 3 with
  | none => rw [hq] at h; cases h
  | some i => rw [hq] at h; simp at h; simp [h.2.1]
theorem zsize_I : (Value.int .i64 0).cells.size = 1 := rfl
/-- What an insertion leaves. -/
def InsI (w : World) (B : Nat) (v : Value) (n : Nat) (xs : List Value) (e : Ending) (w' : World) : Prop :=
  ∃ v', e = .returned v' ∧ w'.ownsRow B 3 1 v' n xs ∧ w.grownBy w' v.ownBlock ∧ (∀ g, v'.ownBlock = some g → v.ownBlock = some g ∨ w.heap.size ≤ g)
attribute [local go_sem ↓] execOp_sliceI
theorem cut_lI (p : Option Addr) (len cap k : Nat) (hk : k ≤ len) (hc : len ≤ cap) (w : World) : (sliceOp 22 (.slice p len cap) (some (.int .i64 k)) none).run Try.prog w = .ok (.value (.slice (if cap = k then p else p.map (·.add (k * 1))) (len - k) (cap - k))) w :=
  run_sliceOp (run_cutS_l Try.underlying22 isize_I p len cap k hk hc w)
theorem cut_hI (p : Option Addr) (len cap k : Nat) (hk : k ≤ cap) (w : World) : (sliceOp 22 (.slice p len cap) none (some (.int .i64 k))).run Try.prog w = .ok (.value (.slice p k cap)) w :=
  run_sliceOp (run_cutS_h Try.underlying22 isize_I p len cap k hk w)
set_option maxRecDepth 100000 in
set_option maxHeartbeats 1000000 in
/-- At the end. -/
theorem insEnd_I (w : World) (B : Nat) (v : Value) (n : Nat) (xs : List Value) (ho : w.ownsRow B 3 1 v n xs) (pb : Nat) (c : List Value) (hc : c.length = 1) (h1 : ∀ u ∈ c, u.oneCell' = true) (hb : Blk w pb c 3) (hn : n ≤ 1000000000) (hB : B ≤ w.heap.size) :
    Calls Try.prog 39 #[v, .int .i64 n, .slice (some ⟨pb, 0, none⟩) 1 1] w (InsI w B v (n + 1) (xs ++ c)) := by
  obtain ⟨p, cap, rfl, hle, hmx, hA, hB2, hnil⟩ := own_at_s ho
  have k1 := cut_lI p n cap n (Nat.le_refl _) hle w
  generalize (if cap = n then p else p.map (·.add (n * 1))) = p1 at *
  have HO := Lib.hid ho
  have hA1 := Lib.hid (show At w (some ⟨pb, 0, none⟩) c from At.ofBlk (rest := []) (by simpa using hb))
  have HC := Lib.hid hc
  have H1 := Lib.hid h1
  clear ho hc h1 hb hA hB2 hnil
  unfold maxLen at hmx
  go_enter Try.func39, Try.ntmps39
  go_wp2_with (at_builtin; refine wpList_app_s rfl (.tmp 23) (.tmp 24) 22 rfl B 3 (size := 1) (by omega) Try.underlying22 info_I zsize_I _ n xs rfl HO.out (some ⟨pb, 0, none⟩) 1 1 c rfl hA1.out (by rw [HC.out]) (fun h => by cases h) (Nat.le_refl _) H1.out (by omega) (by unfold maxLen; omega) hB ?_; intro v7 w7 hown7 hg7 hat7; have O7 := Lib.hid hown7; have G7 := Lib.hid hg7; have A7 := Lib.hid hat7; clear hown7 hg7 hat7)
  go_ret
  exact ⟨v7, rfl, O7.out, G7.out, A7.out⟩
/-! ### In place -/
theorem over_I (w : World) (pb g o lb cb : Nat) {c cs : List Value} {tp tg : TypeId} (hp : Blk w pb c tp) (hg : Blk w g cs tg) (hne : pb ≠ g) (hcs : cs ≠ []) :
    (callFunc 47 #[.slice (some ⟨pb, 0, none⟩) 1 1, .slice (some ⟨g, o, none⟩) lb cb]).run Try.prog w = .ok (.value (.bool false)) w := by
  have hsz := isize_I
  rw [run_callFunc_extern Try.func47 (by kernel_rfl) (by kernel_rfl) (by kernel_rfl) (e := Extern.SlicesOverlaps.overlaps #[22, 22] #[4]) (by kernel_rfl),
    Lib.run_overlaps_apart w 22 4 3 Try.underlying22 1 (size_ofS isize_I) ⟨pb, 0, none⟩ ⟨g, o, none⟩ 1 1 lb cb hne tp tg c.length cs.length (by unfold World.shape?; rw [hp]; rfl) (by unfold World.shape?; rw [hg]; rfl) (by simpa using hcs) (hp.free 0) (hp.free _)]
  rfl
set_option maxRecDepth 100000 in
set_option maxHeartbeats 2000000 in
theorem insIn_I (w : World) (B g n cap i : Nat) (A D R : List Value) (hA : A.length = i * 1) (hD : D.length = (n - i) * 1) (hR : R.length = (cap - n) * 1) (hi : i < n) (hcap : n + 1 ≤ cap) (hm : cap ≤ maxLen) (hBg : B ≤ g) (hg : Blk w g (A ++ D ++ R) 3)
    (hAD1 : ∀ u ∈ A ++ D, u.oneCell' = true) (pb : Nat) (c : List Value) (hc : c.length = 1) (h1 : ∀ u ∈ c, u.oneCell' = true) (hb : Blk w pb c 3) (hne : pb ≠ g) :
    Calls Try.prog 39 #[.slice (some ⟨g, 0, none⟩) n cap, .int .i64 i, .slice (some ⟨pb, 0, none⟩) 1 1] w (InsI w B (.slice (some ⟨g, 0, none⟩) n cap) (n + 1) (A ++ c ++ D)) := by
  unfold maxLen at hm
  have hDR : (D ++ R).length = (cap - i) * 1 := by rw [List.length_append, hD, hR, ← Nat.add_mul]; congr 1; omega
  -- the room is parted
  have hL1 : ((D ++ R).take 1).length = 1 := by rw [List.length_take, hDR]; have : 1 * 1 ≤ (cap - i) * 1 := Nat.mul_le_mul_right _ (by omega); omega
  have hL2 : (((D ++ R).drop 1).take D.length).length = D.length := by
    rw [List.length_take, List.length_drop, hDR, hD]
    have : (n - i) * 1 + 1 * 1 ≤ (cap - i) * 1 := by rw [← Nat.add_mul]; exact Nat.mul_le_mul_right _ (by omega)
    omega
  have hparts : A ++ D ++ R = (A ++ (D ++ R).take 1) ++ ((D ++ R).drop 1).take D.length ++ ((D ++ R).drop 1).drop D.length := by
    rw [List.append_assoc (A ++ _), List.take_append_drop, List.append_assoc A ((D ++ R).take _), List.take_append_drop, List.append_assoc]
  generalize (D ++ R).take 1 = L1 at *
  generalize ((D ++ R).drop 1).take D.length = L2 at *
  generalize ((D ++ R).drop 1).drop D.length = L3 at *
  have hgd : Blk w.drew g (A ++ D ++ R) 3 := hg
  have hgp := hgd
  rw [hparts] at hgp
  have hg2 : Blk (w.drew.setCells g ((i + 1) * 1) D) g ((A ++ L1) ++ D ++ L3) 3 := Blk.setCells D _ _ _ _ _ hgp (by rw [List.length_append, hA, hL1, Nat.add_mul, Nat.one_mul]) hL2
  have hg2' : Blk (w.drew.setCells g ((i + 1) * 1) D) g (A ++ L1 ++ (D ++ L3)) 3 := by rw [← List.append_assoc]; exact hg2
  have hg3 : Blk ((w.drew.setCells g ((i + 1) * 1) D).setCells g (i * 1) c) g (A ++ c ++ (D ++ L3)) 3 := Blk.setCells c _ _ _ _ _ hg2' hA (by rw [hL1, hc])
  have hpb2 : Blk (w.drew.setCells g ((i + 1) * 1) D) pb c 3 := by
    unfold Blk; rw [setCells_heap g D _ w.drew pb hne]; exact hb
  have hlen2 : ((A ++ L1) ++ D ++ L3).length = (A ++ D ++ R).length := by rw [hparts]; simp [hL2]
  have hlenW : (A ++ D ++ R).length = cap * 1 := by
    rw [List.append_assoc, List.length_append, hA, hDR, ← Nat.add_mul]; congr 1; omega
  have cp1 := run_copyS (P := Try.prog) w.drew Try.underlying22 isize_I g ((i + 1) * 1) (n + 1 - (i + 1)) (cap - (i + 1)) ⟨g, i * 1, none⟩ (n + 1 - i) (cap - i) (n - i) D (by simp only [Nat.min_def]; split <;> omega) hD (cells_in hgd hA)
    (hgd.there _ _ (by rw [hlenW, hD, ← Nat.add_mul]; exact Nat.mul_le_mul_right _ (by omega))) (fun u hu => hAD1 u (List.mem_append_right _ hu))
  have cp2 := run_copyS (P := Try.prog) (w.drew.setCells g ((i + 1) * 1) D) Try.underlying22 isize_I g (i * 1) (n + 1 - i) (cap - i) ⟨pb, 0, none⟩ 1 1 1 c (by simp only [Nat.min_def]; split <;> omega) (by rw [hc, Nat.one_mul]) (cells_in (pre := []) (post := []) (by simpa using hpb2) rfl)
    (hg2.there _ _ (by rw [hlen2, hlenW, hc, ← Nat.succ_mul]; exact Nat.mul_le_mul_right _ (by omega))) h1
  have k0 := cut_lI (some ⟨g, 0, none⟩) n cap i (by omega) (by omega) w
  have k1 : ∀ W, (sliceOp 22 (.slice (some ⟨g, 0, none⟩) n cap) none (some (.int .i64 ((n : Int) + 1)))).run Try.prog W = .ok (.value (.slice (some ⟨g, 0, none⟩) (n + 1) cap)) W := fun W => cut_hI (some ⟨g, 0, none⟩) n cap (n + 1) hcap W
  have k2 : ∀ W, (sliceOp 22 (.slice (some ⟨g, 0, none⟩) (n + 1) cap) (some (.int .i64 ((i : Int) + 1))) none).run Try.prog W = .ok (.value (.slice (some ⟨g, (i + 1) * 1, none⟩) (n + 1 - (i + 1)) (cap - (i + 1)))) W := fun W => by
    have h := cut_lI (some ⟨g, 0, none⟩) (n + 1) cap (i + 1) (by omega) hcap W
    rw [if_neg (by omega)] at h
    simpa [Addr.add_mid] using h
  have k3 : ∀ W, (sliceOp 22 (.slice (some ⟨g, 0, none⟩) (n + 1) cap) (some (.int .i64 (i : Int))) none).run Try.prog W = .ok (.value (.slice (some ⟨g, i * 1, none⟩) (n + 1 - i) (cap - i))) W := fun W => by
    have h := cut_lI (some ⟨g, 0, none⟩) (n + 1) cap i (by omega) hcap W
    rw [if_neg (by omega)] at h
    simpa [Addr.add_mid] using h
  have hov := over_I w pb g ((i + 1) * 1) (n + 1 - (i + 1)) (cap - (i + 1)) hb hg hne (by
    intro h0; rw [h0] at hlenW
    have : 1 * 1 ≤ cap * 1 := Nat.mul_le_mul_right _ (by omega)
    simp at hlenW; omega)
  generalize (if cap = i then (some (⟨g, 0, none⟩ : Addr)) else (some (⟨g, 0, none⟩ : Addr)).map (·.add (i * 1))) = p0 at *
  have hwr1 : IntKind.i64.wrap ((i : Int) + 1) = (i : Int) + 1 := by rw [IntKind.wrap_i64]; omega
  have hni : ((i : Int) == (n : Int)) = false := by rw [beq_eq_false_iff_ne]; omega
  have hroom : decide ((cap : Int) < (n : Int) + 1) = false := by rw [decide_eq_false_iff_not]; omega
  have hgr : w.grownBy ((w.drew.setCells g ((i + 1) * 1) D).setCells g (i * 1) c) (some g) := by
    have h2 := setCells_below (a := w.drew) (B := g) (Nat.le_refl _) D ((i + 1) * 1) w.drew (Below.refl _ _)
    have h3 := setCells_below (a := w.drew) (B := g) (Nat.le_refl _) c (i * 1) _ h2
    exact ⟨h3.os, h3.tape, h3.output, h3.size, fun k hk hn => by
      have hkg : k ≠ g := fun e => hn (by rw [e])
      rw [setCells_heap g c _ _ k hkg, setCells_heap g D _ _ k hkg]; rfl⟩
  have hown := own_ofBlk (B := B) (n := n + 1) (s := 1) (cap := cap) (xs := A ++ c ++ D) (rest := L3) hBg (by rw [List.append_assoc (A ++ c)]; exact hg3) hcap (by unfold maxLen; exact hm)
    (by rw [List.length_append, List.length_append, hA, hc, hD, ← Nat.succ_mul, ← Nat.add_mul]; congr 1; omega)
    (by rw [← hlenW, ← hlen2]; simp [hL1, hc] <;> omega)
  have HG := Lib.hid hgr
  have HO := Lib.hid hown
  clear hgr hown hg3 hg2 hg2' hgp hgd hg hpb2 hb hparts hlen2 hlenW hL1 hL2 hDR hR hD hA hAD1 h1 hc hne
  generalize w.drew.setCells g ((i + 1) * 1) D = w1 at *
  generalize w1.setCells g (i * 1) c = w2 at *
  (try simp only [Nat.mul_one] at hov)
  simp only [Nat.mul_one] at k0 k1 k2 k3 cp1 cp2
  generalize n + 1 - (i + 1) = l2 at *
  generalize cap - (i + 1) = c2 at *
  generalize n + 1 - i = l3 at *
  generalize cap - i = c3 at *
  go_enter Try.func39, Try.ntmps39
  go_wp2_with (simp only [hov])
  go_region_law (refine copy_step rfl (.tmp 73) (.tmp 76) 22 22 rfl _ _ (by simp [Act.eval, Act.put]) (by simp [Act.eval, Act.put]) (cp1 _) ?_)
  all_goals
    go_wp2_with (at_builtin; refine copy_law _ rfl (.tmp 80) (.tmp 81) 22 22 rfl _ _ rfl rfl (cp2 _) ?_)
    go_ret
    exact ⟨_, rfl, HO.out, HG.out, fun k hk => Or.inl hk⟩
/-! ### A new row -/
set_option maxRecDepth 100000 in
set_option maxHeartbeats 2000000 in
theorem insGrow_I (w : World) (B g n cap i : Nat) (A D R : List Value) (hA : A.length = i * 1) (hD : D.length = (n - i) * 1) (hi : i < n) (hn : n ≤ 1000000000) (hle : n ≤ cap) (hcap : cap < n + 1) (hg : Blk w g (A ++ D ++ R) 3)
    (hAD1 : ∀ u ∈ A ++ D, u.oneCell' = true) (pb : Nat) (c : List Value) (hc : c.length = 1) (h1 : ∀ u ∈ c, u.oneCell' = true) (hb : Blk w pb c 3) (hB : B ≤ w.heap.size) :
    Calls Try.prog 39 #[.slice (some ⟨g, 0, none⟩) n cap, .int .i64 i, .slice (some ⟨pb, 0, none⟩) 1 1] w (InsI w B (.slice (some ⟨g, 0, none⟩) n cap) (n + 1) (A ++ c ++ D)) := by
  obtain ⟨i0, hi0, hz0, hz1, hz2⟩ := info_parts info_I
  obtain ⟨G, hG⟩ : ∃ G, G = grownCap w (n + 1) cap 3 := ⟨_, rfl⟩
  obtain ⟨N, hN⟩ : ∃ N, N = w.heap.size := ⟨_, rfl⟩
  obtain ⟨zz, hzz⟩ : ∃ zz : Value, zz = .int .i64 0 := ⟨_, rfl⟩
  rw [← hzz] at hz0
  have hzs : zz.cells.size = 1 := by rw [hzz]; exact zsize_I
  have hGn : n + 1 ≤ G := by rw [hG]; exact grownCap_ge w _ _ _
  have hGm : G ≤ maxLen := by rw [hG]; exact grownCap_le_maxLen w (n + 1) cap 3 (by unfold maxLen; omega)
  have hap : ∀ ty, (Builtin.append_ #[22, 3] ty #[.slice (some ⟨g, 0, none⟩) i cap, .int .i64 ((n : Int) + 1 - (i : Int))]).run Try.prog w =
      .ok (.slice (some ⟨N, 0, none⟩) (n + 1) G) (w.drew.alloc (.cells (A.toArray ++ Builtin.zeroCells zz.cells (n + 1 - i) ++ Builtin.zeroCells zz.cells (G - (n + 1))) 3)) := fun ty => by
    have h := Lib.run_append_grow_zeros (P := Try.prog) w 22 3 ty 3 i0 zz .i64 .i64 Try.underlying22 Try.underlying3 hi0 hz0 (some ⟨g, 0, none⟩) i cap A
      (by rw [hz1]; exact run_firstCells_some w.drew 1 i ⟨g, 0, none⟩ i cap A hA (cells_in (w := w.drew) (pre := []) (post := D ++ R) (by have h9 : Blk w.drew g (A ++ D ++ R) 3 := hg; simpa using h9) rfl))
      (n + 1 - i) (by omega) (by rw [hz1]; omega) (by omega) (by omega) (by rw [hz2]; omega) (by rw [hz2]; exact growslice_fits (by omega) (by omega))
    rw [show i + (n + 1 - i) = n + 1 by omega] at h
    rw [show (n : Int) + 1 - (i : Int) = ((n + 1 - i : Nat) : Int) by omega, hG, hN]
    exact h
  obtain ⟨Z1, hZ1⟩ : ∃ Z1, Z1 = (Builtin.zeroCells zz.cells (n + 1 - i)).toList := ⟨_, rfl⟩
  obtain ⟨Z2, hZ2⟩ : ∃ Z2, Z2 = (Builtin.zeroCells zz.cells (G - (n + 1))).toList := ⟨_, rfl⟩
  have lZ1 : Z1.length = (n + 1 - i) * 1 := by rw [hZ1, Array.length_toList, size_zeroCells, hzs]
  have lZ2 : Z2.length = (G - (n + 1)) * 1 := by rw [hZ2, Array.length_toList, size_zeroCells, hzs]
  have hrow : A.toArray ++ Builtin.zeroCells zz.cells (n + 1 - i) ++ Builtin.zeroCells zz.cells (G - (n + 1)) = (A ++ Z1 ++ Z2).toArray := by
    rw [hZ1, hZ2]; simp
  rw [hrow] at hap
  have b1 : Blk (w.drew.alloc (.cells (A ++ Z1 ++ Z2).toArray 3)) N (A ++ Z1 ++ Z2) 3 := by rw [hN]; exact Blk.new w.drew _ 3
  have g1 : Blk (w.drew.alloc (.cells (A ++ Z1 ++ Z2).toArray 3)) g (A ++ D ++ R) 3 := Blk.old (w := w.drew) hg _
  have p1 : Blk (w.drew.alloc (.cells (A ++ Z1 ++ Z2).toArray 3)) pb c 3 := Blk.old (w := w.drew) hb _
  have hgN : g ≠ N := by have := hg.lt; omega
  have hpN : pb ≠ N := by have := hb.lt; omega
  have hbw1 : Below w.heap.size w (w.drew.alloc (.cells (A ++ Z1 ++ Z2).toArray 3)) := (Below.refl _ w).drew.alloc (Nat.le_refl _) _
  generalize w.drew.alloc (.cells (A ++ Z1 ++ Z2).toArray 3) = w1 at *
  have l1 : (Z1.take 1).length = 1 := by rw [List.length_take, lZ1]; have : 1 * 1 ≤ (n + 1 - i) * 1 := Nat.mul_le_mul_right _ (by omega); omega
  have l2 : (Z1.drop 1).length = D.length := by
    rw [List.length_drop, lZ1, hD, show n + 1 - i = (n - i) + 1 by omega, Nat.succ_mul, Nat.add_sub_cancel]
  have b1' : Blk w1 N (A ++ Z1.take 1 ++ (Z1.drop 1 ++ Z2)) 3 := by
    rw [List.append_assoc A, ← List.append_assoc (Z1.take _), List.take_append_drop, ← List.append_assoc]; exact b1
  have b2 : Blk (w1.setCells N (i * 1) c) N (A ++ c ++ (Z1.drop 1 ++ Z2)) 3 := Blk.setCells c _ _ _ _ _ b1' hA (by rw [l1, hc])
  have g2 : Blk (w1.setCells N (i * 1) c) g (A ++ D ++ R) 3 := by unfold Blk; rw [setCells_heap N c _ w1 g hgN]; exact g1
  have lN : (A ++ Z1 ++ Z2).length = G * 1 := by
    rw [List.length_append, List.length_append, hA, lZ1, lZ2, ← Nat.add_mul, ← Nat.add_mul]; congr 1; omega
  have lN2 : (A ++ c ++ (Z1.drop 1 ++ Z2)).length = G * 1 := by
    rw [List.length_append, List.length_append, List.length_append, hA, hc, l2, hD, lZ2, ← Nat.succ_mul, ← Nat.add_mul, ← Nat.add_mul]; congr 1; omega
  have cp1 := run_copyS (P := Try.prog) w1 Try.underlying22 isize_I N (i * 1) (n + 1 - i) (G - i) ⟨pb, 0, none⟩ 1 1 1 c (by simp only [Nat.min_def]; split <;> omega) (by rw [hc, Nat.one_mul]) (cells_in (pre := []) (post := []) (by simpa using p1) rfl)
    (b1.there _ _ (by rw [lN, hc, ← Nat.succ_mul]; exact Nat.mul_le_mul_right _ (by omega))) h1
  have b2d : Blk (w1.setCells N (i * 1) c).drew N (A ++ c ++ (Z1.drop 1 ++ Z2)) 3 := b2
  have g2d : Blk (w1.setCells N (i * 1) c).drew g (A ++ D ++ R) 3 := g2
  have cp2 := run_copyS (P := Try.prog) (w1.setCells N (i * 1) c).drew Try.underlying22 isize_I N ((i + 1) * 1) (n + 1 - (i + 1)) (G - (i + 1)) ⟨g, i * 1, none⟩ (n - i) (cap - i) (n - i) D (by simp only [Nat.min_def]; split <;> omega) hD (cells_in g2d hA)
    (b2d.there _ _ (by rw [lN2, hD, ← Nat.add_mul]; exact Nat.mul_le_mul_right _ (by omega))) (fun u hu => hAD1 u (List.mem_append_right _ hu))
  have b3 : Blk ((w1.setCells N (i * 1) c).drew.setCells N ((i + 1) * 1) D) N ((A ++ c) ++ D ++ Z2) 3 :=
    Blk.setCells D _ _ _ _ _ (by rw [← List.append_assoc] at b2d; exact b2d) (by rw [List.length_append, hA, hc, Nat.succ_mul]) l2
  have hown := own_ofBlk (B := B) (n := n + 1) (s := 1) (cap := G) (xs := A ++ c ++ D) (rest := Z2) (by omega) b3 hGn hGm
    (by rw [List.length_append, List.length_append, hA, hc, hD, ← Nat.succ_mul, ← Nat.add_mul]; congr 1; omega)
    (by rw [List.length_append, List.length_append, List.length_append, hA, hc, hD, lZ2, ← Nat.succ_mul, ← Nat.add_mul, ← Nat.add_mul]; congr 1; omega)
  have hgr : w.grownBy ((w1.setCells N (i * 1) c).drew.setCells N ((i + 1) * 1) D) (some g) := by
    have h2 := setCells_below (a := w) (B := w.heap.size) (b := N) (by omega) c (i * 1) w1 hbw1
    have h3 := setCells_below (a := w) (B := w.heap.size) (b := N) (by omega) D ((i + 1) * 1) _ h2.drew
    exact ⟨h3.os, h3.tape, h3.output, h3.size, fun k hk _ => h3.block k hk⟩
  have k0 := cut_lI (some ⟨g, 0, none⟩) n cap i (by omega) (by omega)
  have hci : ¬ (cap = i) := by omega
  simp only [if_neg hci, Option.map_some, Addr.add_mid, Nat.zero_add] at k0
  have k1 := cut_hI (some ⟨g, 0, none⟩) n cap i (by omega)
  have k2 := cut_lI (some ⟨N, 0, none⟩) (n + 1) G i (by omega) hGn
  simp only [if_neg (show ¬ (G = i) by omega), Option.map_some, Addr.add_mid, Nat.zero_add] at k2
  have k3 : ∀ W, (sliceOp 22 (.slice (some ⟨N, 0, none⟩) (n + 1) G) (some (.int .i64 ((i : Int) + 1))) none).run Try.prog W = .ok (.value (.slice (some ⟨N, (i + 1) * 1, none⟩) (n + 1 - (i + 1)) (G - (i + 1)))) W := fun W => by
    have h := cut_lI (some ⟨N, 0, none⟩) (n + 1) G (i + 1) (by omega) hGn W
    rw [if_neg (by omega)] at h
    simpa [Addr.add_mid] using h
  have hwr1 : IntKind.i64.wrap ((i : Int) + 1) = (i : Int) + 1 := by rw [IntKind.wrap_i64]; omega
  have hni : ((i : Int) == (n : Int)) = false := by rw [beq_eq_false_iff_ne]; omega
  have hroom : decide ((cap : Int) < (n : Int) + 1) = true := by rw [decide_eq_true_iff]; omega
  have HG := Lib.hid hgr
  have HO := Lib.hid hown
  have HNW := Lib.hid hN
  have HNS := Lib.hid (show w.heap.size ≤ N by omega)
  clear hgr hown b3 b2 b2d g2 g2d b1 b1' g1 p1 l1 l2 lZ1 lZ2 lN lN2 hgN hpN hrow hZ1 hZ2 hN hG hGm hzz hz0 hz1 hz2 hzs hi0 hbw1 hg hb hA hD hAD1 hc h1
  generalize w1.setCells N (i * 1) c = w2 at *
  generalize w2.drew.setCells N ((i + 1) * 1) D = w3 at *
  (try simp only [Nat.mul_one] at hov)
  simp only [Nat.mul_one] at k0 k1 k2 k3 cp1 cp2
  generalize n + 1 - (i + 1) = l2 at *
  generalize G - (i + 1) = c2 at *
  generalize n + 1 - i = l3 at *
  generalize G - i = c3 at *
  generalize n - i = l4 at *
  generalize cap - i = c4 at *
  go_enter Try.func39, Try.ntmps39
  go_wp2_with (first | (at_builtin; refine Lib.wpList_append_run _ rfl (.tmp 34) (.tmp 39) _ _ rfl _ _ rfl rfl _ _ (hap _) ?_) | (refine copy_law _ rfl (.tmp 43) (.tmp 44) 22 22 rfl _ _ rfl rfl (cp1 _) ?_))
  go_region_law (refine copy_step rfl (.tmp 50) (.tmp 53) 22 22 rfl _ _ (by simp [Act.eval, Act.put]) (by simp [Act.eval, Act.put]) (cp2 _) ?_)
  all_goals
    go_wp2_with fail
    go_ret
    exact ⟨_, rfl, HO.out, HG.out, fun k hk => Or.inr (by cases hk; exact HNS.out)⟩
/-- An insertion into a row of the call's own. -/
theorem ins_I (w : World) (B : Nat) (v : Value) (n : Nat) (xs : List Value) (ho : w.ownsRow B 3 1 v n xs) (hx1 : ∀ u ∈ xs, u.oneCell' = true) (i : Nat) (hi : i ≤ n) (pb : Nat) (c : List Value) (hc : c.length = 1) (h1 : ∀ u ∈ c, u.oneCell' = true) (hb : Blk w pb c 3) (hne : v.ownBlock ≠ some pb) (hn : n ≤ 1000000000) (hB : B ≤ w.heap.size) :
    Calls Try.prog 39 #[v, .int .i64 i, .slice (some ⟨pb, 0, none⟩) 1 1] w (InsI w B v (n + 1) (xs.take (i * 1) ++ c ++ xs.drop (i * 1))) := by
  by_cases he : i = n
  · subst he
    have hxl := ho.1
    rw [List.take_of_length_le (by omega), List.drop_eq_nil_of_le (by omega), List.append_nil]
    exact insEnd_I w B v i xs ho pb c hc h1 hb hn hB
  · obtain ⟨g, cap, rest, rfl, hg, hle, hm, hk, hl, hl2⟩ := own_whole ho (by omega)
    have hpg : pb ≠ g := fun e => hne (by rw [e]; rfl)
    have hA : (xs.take (i * 1)).length = i * 1 := by rw [List.length_take, hl]; have : i * 1 ≤ n * 1 := Nat.mul_le_mul_right _ hi; omega
    have hD : (xs.drop (i * 1)).length = (n - i) * 1 := by rw [List.length_drop, hl, ← Nat.sub_mul]
    have hR : rest.length = (cap - n) * 1 := by rw [List.length_append, hl] at hl2; rw [Nat.sub_mul]; omega
    have hk' : Blk w g (xs.take (i * 1) ++ xs.drop (i * 1) ++ rest) 3 := by rw [List.take_append_drop]; exact hk
    have h1' : ∀ u ∈ xs.take (i * 1) ++ xs.drop (i * 1), u.oneCell' = true := by rw [List.take_append_drop]; exact hx1
    by_cases hc2 : n + 1 ≤ cap
    · exact insIn_I w B g n cap i _ _ rest hA hD hR (by omega) hc2 hm hg hk' h1' pb c hc h1 hb hpg
    · exact insGrow_I w B g n cap i _ _ rest hA hD (by omega) hn hle (by omega) hk' h1' pb c hc h1 hb hB
end Go.Proofs.Ytfoomffbjjcjjaa
