/-
  The reference's without: a word and its count taken out.
-/
import Derived.Test.YtgohapbobbkaeaaRgA
import Derived.Test.YtgohapbobbkaeaaHeldZ
import Derived.Test.YtgohapbobbkaeaaSlk13
namespace Go.Proofs.Ytgohapbobbkaeaa
set_option linter.unusedSimpArgs false
set_option linter.unusedVariables false
open Go.RowKit Sha
theorem execOp_sliceW (ρ : Operand → Value) (dst : Option Tmp) (x : Operand) (lo hi : Option Operand) (ty : TypeId) (pos : String) (after : Array Edge) (guard : Option (Nat × Bool)) :
    execOp ρ { dst := dst, op := .slice 35 x lo hi none, type := ty, pos := pos, after := after, guard := guard } = sliceOp 35 (ρ x) (lo.map ρ) (hi.map ρ) := by unfold sliceOp; rfl
theorem execOp_sliceI (ρ : Operand → Value) (dst : Option Tmp) (x : Operand) (lo hi : Option Operand) (ty : TypeId) (pos : String) (after : Array Edge) (guard : Option (Nat × Bool)) :
    execOp ρ { dst := dst, op := .slice 52 x lo hi none, type := ty, pos := pos, after := after, guard := guard } = sliceOp 52 (ρ x) (lo.map ρ) (hi.map ρ) := by unfold sliceOp; rfl
theorem execOp_buildI (ρ : Operand → Value) (dst : Option Tmp) (len : Nat) (parts : Array (Nat × Operand)) (ty : TypeId) (pos : String) (after : Array Edge) (guard : Option (Nat × Bool)) :
    execOp ρ { dst := dst, op := .buildSlice 52 len parts, type := ty, pos := pos, after := after, guard := guard } = buildM 52 len (parts.map fun (i, x) => (i, ρ x)) := by unfold buildM; rfl
theorem msize : (Try.prog.info? 32).map (fun i => i.size) = some 3 := mem_size
theorem isize : (Try.prog.info? 3).map (fun i => i.size) = some 1 := by kernel_rfl
theorem int_zs : (Try.prog.info? it).map (fun i => (i.zero, i.size)) = some (some (.int .i64 0), 1) := by kernel_rfl
theorem run_buildI0 (w : World) : (buildM 52 0 #[]).run Try.prog w = .ok (.value (.slice (some ⟨w.heap.size, 0, none⟩) 0 0)) (w.alloc (.cells #[] it)) := by
  unfold buildM; simp only [Sem.run_bind]
  rw [show (Instr.buildSlice 52 0 #[]).run Try.prog w = .ok (.slice (some ⟨w.heap.size, 0, none⟩) 0 0) (w.alloc (.cells #[] it)) by go_simp]; rfl
theorem own_emptyI (w : World) (B : Nat) (hB : B ≤ w.heap.size) : (w.alloc (.cells #[] it)).ownsRow B it 1 (.slice (some ⟨w.heap.size, 0, none⟩) 0 0) 0 [] :=
  ⟨rfl, Or.inr ⟨w.heap.size, 0, #[], rfl, hB, heap_alloc_new w _, Nat.le_refl _, by simp [maxLen], rfl, rfl⟩⟩
theorem wtake (l : List Mb) (i : Nat) : (l.flatMap mc).take (i * 3) = (l.take i).flatMap mc := by
  induction l generalizing i with
  | nil => simp
  | cons x l ih =>
    cases i with
    | zero => simp
    | succ i =>
      rw [show (i + 1) * 3 = i * 3 + 1 + 1 + 1 by omega]
      simp only [List.flatMap_cons, mc, List.cons_append, List.nil_append, List.take_succ_cons]
      rw [ih i]
theorem wdrop (l : List Mb) (i : Nat) : (l.flatMap mc).drop (i * 3) = (l.drop i).flatMap mc := by
  induction l generalizing i with
  | nil => simp
  | cons x l ih =>
    cases i with
    | zero => simp
    | succ i =>
      rw [show (i + 1) * 3 = i * 3 + 1 + 1 + 1 by omega]
      simp only [List.flatMap_cons, mc, List.cons_append, List.nil_append, List.drop_succ_cons]
      exact ih i
theorem pms_erase (P : List Tl) (k : Nat) : (pms P).take (k * 3) ++ (pms P).drop ((k + 1) * 3) = pms (P.eraseIdx k) := by
  have e : (P.eraseIdx k).map (·.m) = (P.map (·.m)).take k ++ (P.map (·.m)).drop (k + 1) := by rw [List.eraseIdx_eq_take_drop_succ, List.map_append, List.map_take, List.map_drop]
  show _ = ((P.eraseIdx k).map (·.m)).flatMap mc
  rw [e, wtake, wdrop, List.flatMap_append]
theorem pts_erase (P : List Tl) (k : Nat) : (pts P).take k ++ (pts P).drop (k + 1) = pts (P.eraseIdx k) := by
  have e : (P.eraseIdx k).map (fun x => Value.int .i64 (x.t : Int)) = (pts P).take k ++ (pts P).drop (k + 1) := by rw [List.eraseIdx_eq_take_drop_succ, List.map_append, List.map_take, List.map_drop]
  exact e.symm
/-- The first part, and what stands behind one, of a row. -/
theorem at_first {w : World} {q : Option Addr} {xs : List Value} (h : At w q xs) (i : Nat) : At w q (xs.take i) := by
  rcases h with h | ⟨b, off, rfl, hc⟩
  · exact .inl (by rw [h]; simp)
  · exact .inr ⟨b, off, rfl, fun j v hv => hc j v (by rw [List.getElem?_take] at hv; split at hv; exact hv; cases hv)⟩
theorem at_rest {w : World} {q : Option Addr} {xs : List Value} {n k s c : Nat} (h : At w q xs) (hl : xs.length = n * s) (hk : k ≤ n) (hc : n ≤ c) : At w (if c = k then q else q.map (·.add (k * s))) (xs.drop (k * s)) := by
  by_cases hck : c = k
  · obtain rfl : k = n := by omega
    exact .inl (List.drop_eq_nil_of_le (by omega))
  · rw [if_neg hck]
    rcases h with h | ⟨b, off, rfl, hcell⟩
    · exact .inl (by rw [h]; simp)
    · exact .inr ⟨b, off + k * s, by simp [Addr.add_mid], fun j v hv => by rw [List.getElem?_drop] at hv; rw [Nat.add_assoc]; exact hcell _ v hv⟩
theorem rest_nil {q : Option Addr} {n k s c : Nat} (hq : q = none → c = 0) : (if c = k then q else q.map (·.add (k * s))) = none → c - k = 0 := by
  intro h
  split at h
  · omega
  · cases q with
    | none => have := hq rfl; omega
    | some a => cases h
theorem one_pms (P : List Tl) (i : Nat) : (∀ u ∈ (pms P).take i, u.oneCell' = true) ∧ ∀ u ∈ (pms P).drop i, u.oneCell' = true := ⟨fun u h => wflat_one _ u (List.mem_of_mem_take h), fun u h => wflat_one _ u (List.mem_of_mem_drop h)⟩
theorem one_pts (P : List Tl) (i : Nat) : (∀ u ∈ (pts P).take i, u.oneCell' = true) ∧ ∀ u ∈ (pts P).drop i, u.oneCell' = true := by
  have h : ∀ u ∈ pts P, u.oneCell' = true := by intro u hu; obtain ⟨x, _, rfl⟩ := List.mem_map.1 hu; rfl
  exact ⟨fun u hu => h u (List.mem_of_mem_take hu), fun u hu => h u (List.mem_of_mem_drop hu)⟩
def RawDone (b : Nat) (fp : List Nat) (N : Nat) (P : List Tl) (v : Value) (w : World) (e : Ending) (w' : World) : Prop := e = .returned v ∧ ∃ fp', RefRaw w' b fp' N P ∧ Touch fp w w' ∧ From fp fp' w
theorem own_lessR {w : World} {B B' n size : Nat} {e : TypeId} {v : Value} {xs : List Value} (h : w.ownsRow B e size v n xs) (hb : B' ≤ B) : w.ownsRow B' e size v n xs := by
  refine ⟨h.1, ?_⟩
  rcases h.2 with h | ⟨g, cap, cur, hv, hg, h4⟩
  · exact Or.inl h
  · exact Or.inr ⟨g, cap, cur, hv, Nat.le_trans hb hg, h4⟩
theorem without_end {w w5 w8 : World} {b N n : Nat} {vL vT v6 v8 : Value} {Q : List Tl} (hb : Blk w b [v64 N, vL, vT] rgt) (B5 : Below w.heap.size w w5) (B8 : Below w5.heap.size (w5.setCell ⟨b, 1, none⟩ v6) w8)
    (O6 : w5.ownsRow w.heap.size mt 3 v6 n (pms Q)) (O8 : w8.ownsRow w5.heap.size it 1 v8 n (pts Q)) (hn : Q.length = n) (vv : Value) :
    RawDone b (b :: (vL.ownBlock.toList ++ vT.ownBlock.toList)) N Q vv w (.returned vv) (w8.setCell ⟨b, 2, none⟩ v8) := by
  have hlt := hb.lt
  have h6 := own_base_w O6
  have h8 := own_base_w O8
  have hs5 : w5.heap.size ≤ w8.heap.size := Nat.le_trans (Below.setCell (Below.refl b w5) (p := ⟨b, 1, none⟩) (Nat.le_refl _) v6).size B8.size
  have k5 := hb.upon B5
  have k8 : Blk w8 b [v64 N, v6, vT] rgt := (k5.set 1 v6).below B8 (Nat.lt_of_lt_of_le hlt B5.size)
  have O6' : (w5.setCell ⟨b, 1, none⟩ v6).ownsRow w.heap.size mt 3 v6 n (pms Q) := ownsRow_keepR O6 fun g e => Below.heap_setCell _ _ _ _ (fun h => by have h : g = b := h; have := (h6 g e).1; omega)
  have O68 : w8.ownsRow w.heap.size mt 3 v6 n (pms Q) := ownsRow_keepR O6' fun g e => B8.block g (h6 g e).2
  subst hn
  refine ⟨rfl, _, ⟨v6, v8, rfl, k8.set 2 v8, ?_, ?_, ?_, ?_, ?_⟩, ?_, ?_⟩
  · exact ownsRow_keepR (own_lessR O68 (Nat.zero_le _)) fun g e => Below.heap_setCell _ _ _ _ (fun h => by have h : g = b := h; have := (h6 g e).1; omega)
  · exact ownsRow_keepR (own_lessR O8 (Nat.zero_le _)) fun g e => Below.heap_setCell _ _ _ _ (fun h => by have h : g = b := h; have := (h8 g e).1; have := B5.size; omega)
  · intro e; have := (h6 b e).1; omega
  · intro e; have := (h8 b e).1; have := B5.size; omega
  · intro k e e2; have h1 := (h6 k e).2; have h2 := (h8 k e2).1; omega
  · have t1 : Touch (b :: (vL.ownBlock.toList ++ vT.ownBlock.toList)) w w5 := Touch.of_below B5
    have t2 := t1.setIn (g := b) (i := 1) (by simp) v6
    have t3 : Touch (b :: (vL.ownBlock.toList ++ vT.ownBlock.toList)) (w5.setCell ⟨b, 1, none⟩ v6) w8 := ⟨B8.os, B8.tape, B8.output, Nat.le_trans (Nat.le_of_eq (by rw [World.size_setCell])) hs5, fun k hk hn => B8.block k (by rw [World.size_setCell] at hk; exact hk)⟩
    exact (t2.trans t3 (From.refl _ _)).setIn (by simp) v8
  · intro k hk
    rcases List.mem_cons.1 hk with rfl | hk
    · exact .inl (by simp)
    · rcases List.mem_append.1 hk with hk | hk
      · exact .inr (h6 k (by simpa using hk)).1
      · exact .inr (by have := (h8 k (by simpa using hk)).1; have := B5.size; omega)
section
attribute [local go_sem ↓] execOp_loadM execOp_storeM execOp_eqlM execOp_buildM execOp_sliceW execOp_sliceI execOp_buildI
set_option maxRecDepth 100000 in
set_option maxHeartbeats 8000000 in
theorem without_any (b : Nat) (fp : List Nat) (N : Nat) (P : List Tl) (k : Nat) (w : World) (h : RefRaw w b fp N P) (hk : k < P.length) (hs : P.length ≤ 1000) :
    Calls Try.prog 32 #[optr b, .int .i64 k] w (RawDone b fp N (P.eraseIdx k) (.tuple #[]) w) := by
  obtain ⟨vL, vT, rfl, hb, hL, hT, _, hne2, _⟩ := h
  obtain ⟨qL, cL, hvL, l1, l2, hAL, hlL, nL⟩ := own_at_s hL
  obtain ⟨qT, cT, hvT, l3, l4, hAT, hlT, nT⟩ := own_at_s hT
  obtain ⟨n, hn⟩ : ∃ n, n = P.length := ⟨_, rfl⟩
  rw [← hn] at hvL hvT hk hs l1 l3 hlL hlT
  subst hvL hvT
  have HLN := Lib.hid (show (P.eraseIdx k).length = n - 1 by rw [List.length_eraseIdx, if_pos (by omega)]; omega)
  have HB := Lib.hid hb
  unfold maxLen at l2 l4
  have kL1 := fun W => run_sliceOp (run_cutS_h (P := Try.prog) Try.underlying35 msize qL n cL k (by omega) W)
  have kL2 := fun W => run_sliceOp (run_cutS_l (P := Try.prog) Try.underlying35 msize qL n cL (k + 1) (by omega) l1 W)
  have kT1 := fun W => run_sliceOp (run_cutS_h (P := Try.prog) Try.underlying52 isize qT n cT k (by omega) W)
  have kT2 := fun W => run_sliceOp (run_cutS_l (P := Try.prog) Try.underlying52 isize qT n cT (k + 1) (by omega) l3 W)
  have HA1 := Lib.hid (at_first hAL (k * 3))
  have HA2 := Lib.hid (at_rest hAL hlL (show k + 1 ≤ n by omega) l1)
  have HA3 := Lib.hid (at_first hAT k)
  have HA4 := Lib.hid (show At w (if cT = k + 1 then qT else qT.map (·.add ((k + 1) * 1))) ((pts P).drop (k + 1)) from by have := at_rest hAT hlT (show k + 1 ≤ n by omega) l3; rwa [Nat.mul_one (k + 1)] at this ⊢)
  have HNB := Lib.hid (show ∀ a, qT = some a → a.block ≠ b ∧ a.block < w.heap.size from fun a e => ⟨fun h => hne2 (by rw [e, ← h]; rfl), (own_base_w hT a.block (by rw [e]; rfl)).2⟩)
  have HNB4 := Lib.hid (show ∀ a, (if cT = k + 1 then qT else qT.map (·.add ((k + 1) * 1))) = some a → a.block ≠ b ∧ a.block < w.heap.size from fun a e => by
    split at e
    · exact HNB.out a e
    · cases qT with
      | none => cases e
      | some a0 => cases e; exact HNB.out a0 rfl)
  have HN2 := Lib.hid (rest_nil (k := k + 1) (s := 3) (n := n) nL)
  have HN4 := Lib.hid (rest_nil (k := k + 1) (s := 1) (n := n) nT)
  have HN1 := Lib.hid nL
  have HN3 := Lib.hid nT
  have hE1 : ((pms P).take (k * 3)).length = k * 3 := by rw [List.length_take, pms_len, ← hn]; omega
  have hE2 : ((pms P).drop ((k + 1) * 3)).length = (n - (k + 1)) * 3 := by rw [List.length_drop, pms_len, ← hn]; omega
  have hE3 : ((pts P).take k).length = k * 1 := by rw [List.length_take, pts_len, ← hn]; omega
  have hE4 : ((pts P).drop (k + 1)).length = (n - (k + 1)) * 1 := by rw [List.length_drop, pts_len, ← hn]; omega
  have HNN := Lib.hid (show 0 + k + (n - (k + 1)) = n - 1 by omega)
  have HE1 := Lib.hid hE1
  have HE2 := Lib.hid hE2
  have HE3 := Lib.hid hE3
  have HE4 := Lib.hid hE4
  have e1 : ((k + 1 : Nat) : Int) = (k : Int) + 1 := by omega
  rw [e1] at kL2 kT2
  generalize (if cL = k + 1 then qL else qL.map (·.add ((k + 1) * 3))) = q2 at *
  generalize (if cT = k + 1 then qT else qT.map (·.add ((k + 1) * 1))) = q4 at *
  have i1 : IntKind.i64.wrap ((k : Int) + 1) = (k : Int) + 1 := IntWalk.i64_in _ (by omega)
  have HS1 := Lib.hid (fun W (hb2 : Below w.heap.size w W) => (show W.cell? ⟨b, 1, none⟩ = some (.slice qL n cL) ∧ True from ⟨(HB.out.upon hb2).cell 1, trivial⟩))
  clear hb hL hT hAL hAT hlL hlT nL nT hne2 hn hE1 hE2 hE3 hE4 e1
  go_enter Try.func32, Try.ntmps32
  go_wp2_with fail
  refine wp_region_Z 19 (S := (fun w' => w'.cell? ⟨b, 1, none⟩ = some (.slice qL n cL) ∧ True)) (by kernel_rfl) (HS1.out _ ((Below.refl _ _).drew)) (fun hHeld hInv => ?_)
  refine z_take 0 (by kernel_rfl) (v := ?v1) (by kernel_rfl) (by kernel_rfl) (by kernel_rfl) (by kernel_rfl) (fun _ _ _ h => h) (by rfl) ?y1 (by assumption) (by assumption) ?r1
  case y1 => (intro w hSw; (try dsimp only at hSw); (obtain ⟨hSa, hSb⟩ := hSw); simp only [List.getElem_cons_succ, List.getElem_cons_zero]; go_simp; (try with_reducible rfl))
  clear hInv; intro hInv
  try simp only [List.getElem_cons_succ, List.getElem_cons_zero, Act.put, List.setIfInBounds_toArray, List.set_cons_zero, List.set_cons_succ]
  refine z_take 2 (by kernel_rfl) (v := ?v2) (by kernel_rfl) (by kernel_rfl) (by kernel_rfl) (by kernel_rfl) (fun _ _ _ h => h) (by rfl) ?y2 (by assumption) (by assumption) ?r2
  case y2 => (intro w hSw; (try dsimp only at hSw); (obtain ⟨hSa, hSb⟩ := hSw); simp only [List.getElem_cons_succ, List.getElem_cons_zero]; go_simp; (try with_reducible rfl))
  clear hInv; intro hInv
  try simp only [List.getElem_cons_succ, List.getElem_cons_zero, Act.put, List.setIfInBounds_toArray, List.set_cons_zero, List.set_cons_succ]
  refine z_take 3 (by kernel_rfl) (v := ?v3) (by kernel_rfl) (by kernel_rfl) (by kernel_rfl) (by kernel_rfl) (fun _ _ _ h => h) (by rfl) ?y3 (by assumption) (by assumption) ?r3
  case y3 => (intro w hSw; (try dsimp only at hSw); (obtain ⟨hSa, hSb⟩ := hSw); simp only [List.getElem_cons_succ, List.getElem_cons_zero]; go_simp; (try with_reducible rfl))
  clear hInv; intro hInv
  try simp only [List.getElem_cons_succ, List.getElem_cons_zero, Act.put, List.setIfInBounds_toArray, List.set_cons_zero, List.set_cons_succ]
  refine z_take 4 (by kernel_rfl) (v := ?v4) (by kernel_rfl) (by kernel_rfl) (by kernel_rfl) (by kernel_rfl) (fun _ _ _ h => h) (by rfl) ?y4 (by assumption) (by assumption) ?r4
  case y4 => (intro w hSw; (try dsimp only at hSw); (obtain ⟨hSa, hSb⟩ := hSw); simp only [List.getElem_cons_succ, List.getElem_cons_zero]; go_simp; (try with_reducible rfl))
  clear hInv; intro hInv
  try simp only [List.getElem_cons_succ, List.getElem_cons_zero, Act.put, List.setIfInBounds_toArray, List.set_cons_zero, List.set_cons_succ]
  refine z_take 5 (by kernel_rfl) (v := ?v5) (by kernel_rfl) (by kernel_rfl) (by kernel_rfl) (by kernel_rfl) (fun _ _ _ h => h) (by rfl) ?y5 (by assumption) (by assumption) ?r5
  case y5 => (intro w hSw; (try dsimp only at hSw); (obtain ⟨hSa, hSb⟩ := hSw); simp only [List.getElem_cons_succ, List.getElem_cons_zero]; go_simp; (try with_reducible rfl))
  clear hInv; intro hInv
  try simp only [List.getElem_cons_succ, List.getElem_cons_zero, Act.put, List.setIfInBounds_toArray, List.set_cons_zero, List.set_cons_succ]
  refine z_take 6 (by kernel_rfl) (v := ?v6) (by kernel_rfl) (by kernel_rfl) (by kernel_rfl) (by kernel_rfl) (fun _ _ _ h => h) (by rfl) ?y6 (by assumption) (by assumption) ?r6
  case y6 => (intro w hSw; (try dsimp only at hSw); (obtain ⟨hSa, hSb⟩ := hSw); simp only [List.getElem_cons_succ, List.getElem_cons_zero]; go_simp; (try with_reducible rfl))
  clear hInv; intro hInv
  try simp only [List.getElem_cons_succ, List.getElem_cons_zero, Act.put, List.setIfInBounds_toArray, List.set_cons_zero, List.set_cons_succ]
  refine z_take 7 (by kernel_rfl) (v := ?v7) (by kernel_rfl) (by kernel_rfl) (by kernel_rfl) (by kernel_rfl) (fun _ _ _ h => h) (by rfl) ?y7 (by assumption) (by assumption) ?r7
  case y7 => (intro w hSw; (try dsimp only at hSw); (obtain ⟨hSa, hSb⟩ := hSw); simp only [List.getElem_cons_succ, List.getElem_cons_zero]; go_simp; (try with_reducible rfl))
  clear hInv; intro hInv
  try simp only [List.getElem_cons_succ, List.getElem_cons_zero, Act.put, List.setIfInBounds_toArray, List.set_cons_zero, List.set_cons_succ]
  refine z_take 9 (by kernel_rfl) (v := ?v8) (by kernel_rfl) (by kernel_rfl) (by kernel_rfl) (by kernel_rfl) (fun _ _ _ h => h) (by rfl) ?y8 (by assumption) (by assumption) ?r8
  case y8 => (intro w hSw; (try dsimp only at hSw); (obtain ⟨hSa, hSb⟩ := hSw); simp only [List.getElem_cons_succ, List.getElem_cons_zero]; go_simp; (try with_reducible rfl))
  clear hInv; intro hInv
  try simp only [List.getElem_cons_succ, List.getElem_cons_zero, Act.put, List.setIfInBounds_toArray, List.set_cons_zero, List.set_cons_succ]
  refine z_take 10 (by kernel_rfl) (v := ?v9) (by kernel_rfl) (by kernel_rfl) (by kernel_rfl) (by kernel_rfl) (fun _ _ _ h => h) (by rfl) ?y9 (by assumption) (by assumption) ?r9
  case y9 => (intro w hSw; (try dsimp only at hSw); (obtain ⟨hSa, hSb⟩ := hSw); simp only [List.getElem_cons_succ, List.getElem_cons_zero]; go_simp; (try with_reducible rfl))
  clear hInv; intro hInv
  try simp only [List.getElem_cons_succ, List.getElem_cons_zero, Act.put, List.setIfInBounds_toArray, List.set_cons_zero, List.set_cons_succ]
  refine z_take 11 (by kernel_rfl) (v := ?v10) (by kernel_rfl) (by kernel_rfl) (by kernel_rfl) (by kernel_rfl) (fun _ _ _ h => h) (by rfl) ?y10 (by assumption) (by assumption) ?r10
  case y10 => (intro w hSw; (try dsimp only at hSw); (obtain ⟨hSa, hSb⟩ := hSw); simp only [List.getElem_cons_succ, List.getElem_cons_zero]; go_simp; (try with_reducible rfl))
  clear hInv; intro hInv
  try simp only [List.getElem_cons_succ, List.getElem_cons_zero, Act.put, List.setIfInBounds_toArray, List.set_cons_zero, List.set_cons_succ]
  refine z_take 12 (by kernel_rfl) (v := ?v11) (by kernel_rfl) (by kernel_rfl) (by kernel_rfl) (by kernel_rfl) (fun _ _ _ h => h) (by rfl) ?y11 (by assumption) (by assumption) ?r11
  case y11 => (intro w hSw; (try dsimp only at hSw); (obtain ⟨hSa, hSb⟩ := hSw); simp only [List.getElem_cons_succ, List.getElem_cons_zero]; go_simp; (try with_reducible rfl))
  clear hInv; intro hInv
  try simp only [List.getElem_cons_succ, List.getElem_cons_zero, Act.put, List.setIfInBounds_toArray, List.set_cons_zero, List.set_cons_succ]
  refine z_take 13 (by kernel_rfl) (v := ?v12) (by kernel_rfl) (by kernel_rfl) (by kernel_rfl) (by kernel_rfl) (fun _ _ _ h => h) (by rfl) ?y12 (by assumption) (by assumption) ?r12
  case y12 => (intro w hSw; (try dsimp only at hSw); (obtain ⟨hSa, hSb⟩ := hSw); simp only [List.getElem_cons_succ, List.getElem_cons_zero]; go_simp; (try with_reducible rfl))
  clear hInv; intro hInv
  try simp only [List.getElem_cons_succ, List.getElem_cons_zero, Act.put, List.setIfInBounds_toArray, List.set_cons_zero, List.set_cons_succ]
  refine z_take 14 (by kernel_rfl) (v := ?v13) (by kernel_rfl) (by kernel_rfl) (by kernel_rfl) (by kernel_rfl) (fun _ _ _ h => h) (by rfl) ?y13 (by assumption) (by assumption) ?r13
  case y13 => (intro w hSw; (try dsimp only at hSw); (obtain ⟨hSa, hSb⟩ := hSw); simp only [List.getElem_cons_succ, List.getElem_cons_zero]; go_simp; (try with_reducible rfl))
  clear hInv; intro hInv
  try simp only [List.getElem_cons_succ, List.getElem_cons_zero, Act.put, List.setIfInBounds_toArray, List.set_cons_zero, List.set_cons_succ]
  refine z_take 15 (by kernel_rfl) (v := ?v14) (by kernel_rfl) (by kernel_rfl) (by kernel_rfl) (by kernel_rfl) (fun _ _ _ h => h) (by rfl) ?y14 (by assumption) (by assumption) ?r14
  case y14 => (intro w hSw; (try dsimp only at hSw); (obtain ⟨hSa, hSb⟩ := hSw); simp only [List.getElem_cons_succ, List.getElem_cons_zero]; go_simp; (try with_reducible rfl))
  clear hInv; intro hInv
  try simp only [List.getElem_cons_succ, List.getElem_cons_zero, Act.put, List.setIfInBounds_toArray, List.set_cons_zero, List.set_cons_succ]
  refine z_ready 1 (by kernel_rfl) (by kernel_rfl) (by kernel_rfl) (by assumption) (fun K hK => ?_)
  simp only [List.getElem_cons_succ, List.getElem_cons_zero]
  go_simp
  have cB := run_buildM0 w.drew
  have O0 := own_empty_w w.drew w.heap.size (Nat.le_refl _)
  have B0 := Lib.hid (show Below w.heap.size w (w.drew.alloc (.cells #[] mt)) from (Below.refl _ _).drew.alloc (Nat.le_refl _) _)
  rw [show w.drew.heap.size = w.heap.size from rfl] at cB O0
  have HO0 := Lib.hid O0
  clear O0
  generalize w.drew.alloc (.cells #[] mt) = w3 at *
  go_simp
  refine hK.out _ _ (HS1.out _ B0.out) (fun hHeld hInv => ?_)
  clear hK K
  try simp only [List.getElem_cons_succ, List.getElem_cons_zero, Act.put, List.setIfInBounds_toArray, List.set_cons_zero, List.set_cons_succ]
  refine z_ready 8 (by kernel_rfl) (by kernel_rfl) (by kernel_rfl) (by assumption) (fun K hK => ?_)
  simp only [List.getElem_cons_succ, List.getElem_cons_zero]
  rw [if_pos (by rfl)]
  refine wp_app_s (.tmp 5) (.tmp 11) 35 rfl w.heap.size mt (z := .agg #[.int .i64 0, .int .i64 0, .int .i64 0]) (by decide) Try.underlying35 mem_info rfl _ 0 [] (by simp [Act.eval, Act.put]) HO0.out qL k cL ((pms P).take (k * 3)) (by simp [Act.eval, Act.put]) (HA1.out.below B0.out) (by rw [HE1.out]) HN1.out (by omega) (one_pms P _).1 (by omega) (by unfold maxLen; omega) (B0.out.size) ?_
  intro v4 w4 hvv4 hgv4 _
  have B4 := Lib.hid (grown_below B0.out hgv4 (fun g e => (own_base_w HO0.out g e).1) B0.out.size)
  try rw [HNN.out] at hvv4
  have O4 := Lib.hid hvv4
  clear hvv4 hgv4
  refine hK.out _ _ (HS1.out _ B4.out) (fun hHeld hInv => ?_)
  clear hK K
  try simp only [List.getElem_cons_succ, List.getElem_cons_zero, Act.put, List.setIfInBounds_toArray, List.set_cons_zero, List.set_cons_succ]
  refine z_ready 16 (by kernel_rfl) (by kernel_rfl) (by kernel_rfl) (by assumption) (fun K hK => ?_)
  simp only [List.getElem_cons_succ, List.getElem_cons_zero]
  rw [if_pos (by rfl)]
  refine wp_app_s (.tmp 12) (.tmp 19) 35 rfl w.heap.size mt (z := .agg #[.int .i64 0, .int .i64 0, .int .i64 0]) (by decide) Try.underlying35 mem_info rfl _ (0 + k) ([] ++ (pms P).take (k * 3)) (by simp [Act.eval, Act.put]) O4.out q2 (n - (k + 1)) (cL - (k + 1)) ((pms P).drop ((k + 1) * 3)) (by simp [Act.eval, Act.put]) (HA2.out.below B4.out) (by rw [HE2.out]) HN2.out (by omega) (one_pms P _).2 (by omega) (by unfold maxLen; omega) (B4.out.size) ?_
  intro v5 w5 hvv5 hgv5 _
  have B5 := Lib.hid (grown_below B4.out hgv5 (fun g e => (own_base_w O4.out g e).1) B4.out.size)
  try rw [HNN.out] at hvv5
  have O5 := Lib.hid hvv5
  clear hvv5 hgv5
  refine hK.out _ _ (HS1.out _ B5.out) (fun hHeld hInv => ?_)
  clear hK K
  try simp only [List.getElem_cons_succ, List.getElem_cons_zero, Act.put, List.setIfInBounds_toArray, List.set_cons_zero, List.set_cons_succ]
  refine z_take 17 (by kernel_rfl) (v := ?v15) (by kernel_rfl) (by kernel_rfl) (by kernel_rfl) (by kernel_rfl) (fun _ _ _ h => h) (by rfl) ?y15 (by assumption) (by assumption) ?r15
  case y15 => (intro w hSw; (try dsimp only at hSw); (obtain ⟨hSa, hSb⟩ := hSw); simp only [List.getElem_cons_succ, List.getElem_cons_zero]; go_simp; (try with_reducible rfl))
  clear hInv; intro hInv
  try simp only [List.getElem_cons_succ, List.getElem_cons_zero, Act.put, List.setIfInBounds_toArray, List.set_cons_zero, List.set_cons_succ]
  refine z_take 18 (by kernel_rfl) (v := ?v16) (by kernel_rfl) (by kernel_rfl) (by kernel_rfl) (by kernel_rfl) (fun _ _ _ h => h) (by rfl) ?y16 (by assumption) (by assumption) ?r16
  case y16 => (intro w hSw; (try dsimp only at hSw); (obtain ⟨hSa, hSb⟩ := hSw); simp only [List.getElem_cons_succ, List.getElem_cons_zero]; go_simp; (try with_reducible rfl))
  clear hInv; intro hInv
  try simp only [List.getElem_cons_succ, List.getElem_cons_zero, Act.put, List.setIfInBounds_toArray, List.set_cons_zero, List.set_cons_succ]
  refine z_last 19 (by kernel_rfl) rfl (by kernel_rfl) (by kernel_rfl) (fun K hK => ?_)
  simp only [List.getElem_cons_succ, List.getElem_cons_zero]
  go_simp
  obtain ⟨p5, c5, hv, _, _, _, _, _⟩ := own_at_s O5.out
  subst hv
  have K5 := Lib.hid (HB.out.upon B5.out)
  have d5 : w5.cell? ⟨b, 1, none⟩ = some (.slice qL n cL) := K5.out.cell 1
  have f5 : w5.frozen? ⟨b, 1, none⟩ = false := K5.out.free 1
  (try go_simp)
  refine hK.out _ _ ?_
  clear hK K
  have O6 := Lib.hid (show w5.ownsRow w.heap.size mt 3 (.slice p5 (n - 1) c5) (n - 1) (pms (P.eraseIdx k)) from by have := O5.out; rw [List.nil_append, pms_erase] at this; exact this)
  have K6 := Lib.hid (show Blk (w5.setCell ⟨b, 1, none⟩ (.slice p5 (n - 1) c5)) b [v64 N, .slice p5 (n - 1) c5, .slice qT n cT] rgt from K5.out.set 1 _)
  have W6 := Lib.hid (show (w5.setCell ⟨b, 1, none⟩ (.slice p5 (n - 1) c5)).heap.size = w5.heap.size from World.size_setCell ..)
  have HEND := Lib.hid (fun w8 v8 B8 O8 vv => without_end (w8 := w8) (v8 := v8) (n := n - 1) HB.out B5.out B8 O6.out O8 HLN.out vv)
  have HKT := Lib.hid (fun g (hg : g ≠ b) (hlt : g < w.heap.size) => (show (w5.setCell ⟨b, 1, none⟩ (.slice p5 (n - 1) c5)).heap[g]? = w.heap[g]? from (Below.heap_setCell _ _ _ _ hg).trans (B5.out.block g hlt)))
  obtain ⟨w6, hw6⟩ : ∃ y, y = w5.setCell ⟨b, 1, none⟩ (.slice p5 (n - 1) c5) := ⟨_, rfl⟩
  rw [← hw6] at K6 W6 HEND HKT ⊢
  have HA3 := Lib.hid (HA3.out.blocks fun a e => HKT.out a.block (HNB.out a e).1 (HNB.out a e).2)
  have HA4 := Lib.hid (HA4.out.blocks fun a e => HKT.out a.block (HNB4.out a e).1 (HNB4.out a e).2)
  have HS2 := Lib.hid (fun W (hb2 : Below w6.heap.size w6 W) => (show W.cell? ⟨b, 2, none⟩ = some (.slice qT n cT) ∧ True from ⟨(K6.out.upon hb2).cell 2, trivial⟩))
  clear hw6 O6 K5 d5 f5 O5 O4 HO0 B0 B4 HS1 kL1 kL2 HA1 HA2
  go_wp2_with fail
  refine wp_region_Z 19 (S := (fun w' => w'.cell? ⟨b, 2, none⟩ = some (.slice qT n cT) ∧ True)) (by kernel_rfl) (HS2.out _ ((Below.refl _ _).drew)) (fun hHeld hInv => ?_)
  refine z_take 0 (by kernel_rfl) (v := ?v17) (by kernel_rfl) (by kernel_rfl) (by kernel_rfl) (by kernel_rfl) (fun _ _ _ h => h) (by rfl) ?y17 (by assumption) (by assumption) ?r17
  case y17 => (intro w hSw; (try dsimp only at hSw); (obtain ⟨hSa, hSb⟩ := hSw); simp only [List.getElem_cons_succ, List.getElem_cons_zero]; go_simp; (try with_reducible rfl))
  clear hInv; intro hInv
  try simp only [List.getElem_cons_succ, List.getElem_cons_zero, Act.put, List.setIfInBounds_toArray, List.set_cons_zero, List.set_cons_succ]
  refine z_take 2 (by kernel_rfl) (v := ?v18) (by kernel_rfl) (by kernel_rfl) (by kernel_rfl) (by kernel_rfl) (fun _ _ _ h => h) (by rfl) ?y18 (by assumption) (by assumption) ?r18
  case y18 => (intro w hSw; (try dsimp only at hSw); (obtain ⟨hSa, hSb⟩ := hSw); simp only [List.getElem_cons_succ, List.getElem_cons_zero]; go_simp; (try with_reducible rfl))
  clear hInv; intro hInv
  try simp only [List.getElem_cons_succ, List.getElem_cons_zero, Act.put, List.setIfInBounds_toArray, List.set_cons_zero, List.set_cons_succ]
  refine z_take 3 (by kernel_rfl) (v := ?v19) (by kernel_rfl) (by kernel_rfl) (by kernel_rfl) (by kernel_rfl) (fun _ _ _ h => h) (by rfl) ?y19 (by assumption) (by assumption) ?r19
  case y19 => (intro w hSw; (try dsimp only at hSw); (obtain ⟨hSa, hSb⟩ := hSw); simp only [List.getElem_cons_succ, List.getElem_cons_zero]; go_simp; (try with_reducible rfl))
  clear hInv; intro hInv
  try simp only [List.getElem_cons_succ, List.getElem_cons_zero, Act.put, List.setIfInBounds_toArray, List.set_cons_zero, List.set_cons_succ]
  refine z_take 4 (by kernel_rfl) (v := ?v20) (by kernel_rfl) (by kernel_rfl) (by kernel_rfl) (by kernel_rfl) (fun _ _ _ h => h) (by rfl) ?y20 (by assumption) (by assumption) ?r20
  case y20 => (intro w hSw; (try dsimp only at hSw); (obtain ⟨hSa, hSb⟩ := hSw); simp only [List.getElem_cons_succ, List.getElem_cons_zero]; go_simp; (try with_reducible rfl))
  clear hInv; intro hInv
  try simp only [List.getElem_cons_succ, List.getElem_cons_zero, Act.put, List.setIfInBounds_toArray, List.set_cons_zero, List.set_cons_succ]
  refine z_take 5 (by kernel_rfl) (v := ?v21) (by kernel_rfl) (by kernel_rfl) (by kernel_rfl) (by kernel_rfl) (fun _ _ _ h => h) (by rfl) ?y21 (by assumption) (by assumption) ?r21
  case y21 => (intro w hSw; (try dsimp only at hSw); (obtain ⟨hSa, hSb⟩ := hSw); simp only [List.getElem_cons_succ, List.getElem_cons_zero]; go_simp; (try with_reducible rfl))
  clear hInv; intro hInv
  try simp only [List.getElem_cons_succ, List.getElem_cons_zero, Act.put, List.setIfInBounds_toArray, List.set_cons_zero, List.set_cons_succ]
  refine z_take 6 (by kernel_rfl) (v := ?v22) (by kernel_rfl) (by kernel_rfl) (by kernel_rfl) (by kernel_rfl) (fun _ _ _ h => h) (by rfl) ?y22 (by assumption) (by assumption) ?r22
  case y22 => (intro w hSw; (try dsimp only at hSw); (obtain ⟨hSa, hSb⟩ := hSw); simp only [List.getElem_cons_succ, List.getElem_cons_zero]; go_simp; (try with_reducible rfl))
  clear hInv; intro hInv
  try simp only [List.getElem_cons_succ, List.getElem_cons_zero, Act.put, List.setIfInBounds_toArray, List.set_cons_zero, List.set_cons_succ]
  refine z_take 7 (by kernel_rfl) (v := ?v23) (by kernel_rfl) (by kernel_rfl) (by kernel_rfl) (by kernel_rfl) (fun _ _ _ h => h) (by rfl) ?y23 (by assumption) (by assumption) ?r23
  case y23 => (intro w hSw; (try dsimp only at hSw); (obtain ⟨hSa, hSb⟩ := hSw); simp only [List.getElem_cons_succ, List.getElem_cons_zero]; go_simp; (try with_reducible rfl))
  clear hInv; intro hInv
  try simp only [List.getElem_cons_succ, List.getElem_cons_zero, Act.put, List.setIfInBounds_toArray, List.set_cons_zero, List.set_cons_succ]
  refine z_take 9 (by kernel_rfl) (v := ?v24) (by kernel_rfl) (by kernel_rfl) (by kernel_rfl) (by kernel_rfl) (fun _ _ _ h => h) (by rfl) ?y24 (by assumption) (by assumption) ?r24
  case y24 => (intro w hSw; (try dsimp only at hSw); (obtain ⟨hSa, hSb⟩ := hSw); simp only [List.getElem_cons_succ, List.getElem_cons_zero]; go_simp; (try with_reducible rfl))
  clear hInv; intro hInv
  try simp only [List.getElem_cons_succ, List.getElem_cons_zero, Act.put, List.setIfInBounds_toArray, List.set_cons_zero, List.set_cons_succ]
  refine z_take 10 (by kernel_rfl) (v := ?v25) (by kernel_rfl) (by kernel_rfl) (by kernel_rfl) (by kernel_rfl) (fun _ _ _ h => h) (by rfl) ?y25 (by assumption) (by assumption) ?r25
  case y25 => (intro w hSw; (try dsimp only at hSw); (obtain ⟨hSa, hSb⟩ := hSw); simp only [List.getElem_cons_succ, List.getElem_cons_zero]; go_simp; (try with_reducible rfl))
  clear hInv; intro hInv
  try simp only [List.getElem_cons_succ, List.getElem_cons_zero, Act.put, List.setIfInBounds_toArray, List.set_cons_zero, List.set_cons_succ]
  refine z_take 11 (by kernel_rfl) (v := ?v26) (by kernel_rfl) (by kernel_rfl) (by kernel_rfl) (by kernel_rfl) (fun _ _ _ h => h) (by rfl) ?y26 (by assumption) (by assumption) ?r26
  case y26 => (intro w hSw; (try dsimp only at hSw); (obtain ⟨hSa, hSb⟩ := hSw); simp only [List.getElem_cons_succ, List.getElem_cons_zero]; go_simp; (try with_reducible rfl))
  clear hInv; intro hInv
  try simp only [List.getElem_cons_succ, List.getElem_cons_zero, Act.put, List.setIfInBounds_toArray, List.set_cons_zero, List.set_cons_succ]
  refine z_take 12 (by kernel_rfl) (v := ?v27) (by kernel_rfl) (by kernel_rfl) (by kernel_rfl) (by kernel_rfl) (fun _ _ _ h => h) (by rfl) ?y27 (by assumption) (by assumption) ?r27
  case y27 => (intro w hSw; (try dsimp only at hSw); (obtain ⟨hSa, hSb⟩ := hSw); simp only [List.getElem_cons_succ, List.getElem_cons_zero]; go_simp; (try with_reducible rfl))
  clear hInv; intro hInv
  try simp only [List.getElem_cons_succ, List.getElem_cons_zero, Act.put, List.setIfInBounds_toArray, List.set_cons_zero, List.set_cons_succ]
  refine z_take 13 (by kernel_rfl) (v := ?v28) (by kernel_rfl) (by kernel_rfl) (by kernel_rfl) (by kernel_rfl) (fun _ _ _ h => h) (by rfl) ?y28 (by assumption) (by assumption) ?r28
  case y28 => (intro w hSw; (try dsimp only at hSw); (obtain ⟨hSa, hSb⟩ := hSw); simp only [List.getElem_cons_succ, List.getElem_cons_zero]; go_simp; (try with_reducible rfl))
  clear hInv; intro hInv
  try simp only [List.getElem_cons_succ, List.getElem_cons_zero, Act.put, List.setIfInBounds_toArray, List.set_cons_zero, List.set_cons_succ]
  refine z_take 14 (by kernel_rfl) (v := ?v29) (by kernel_rfl) (by kernel_rfl) (by kernel_rfl) (by kernel_rfl) (fun _ _ _ h => h) (by rfl) ?y29 (by assumption) (by assumption) ?r29
  case y29 => (intro w hSw; (try dsimp only at hSw); (obtain ⟨hSa, hSb⟩ := hSw); simp only [List.getElem_cons_succ, List.getElem_cons_zero]; go_simp; (try with_reducible rfl))
  clear hInv; intro hInv
  try simp only [List.getElem_cons_succ, List.getElem_cons_zero, Act.put, List.setIfInBounds_toArray, List.set_cons_zero, List.set_cons_succ]
  refine z_take 15 (by kernel_rfl) (v := ?v30) (by kernel_rfl) (by kernel_rfl) (by kernel_rfl) (by kernel_rfl) (fun _ _ _ h => h) (by rfl) ?y30 (by assumption) (by assumption) ?r30
  case y30 => (intro w hSw; (try dsimp only at hSw); (obtain ⟨hSa, hSb⟩ := hSw); simp only [List.getElem_cons_succ, List.getElem_cons_zero]; go_simp; (try with_reducible rfl))
  clear hInv; intro hInv
  try simp only [List.getElem_cons_succ, List.getElem_cons_zero, Act.put, List.setIfInBounds_toArray, List.set_cons_zero, List.set_cons_succ]
  refine z_ready 1 (by kernel_rfl) (by kernel_rfl) (by kernel_rfl) (by assumption) (fun K hK => ?_)
  simp only [List.getElem_cons_succ, List.getElem_cons_zero]
  go_simp
  have cB := run_buildI0 w6.drew
  have O0 := own_emptyI w6.drew w6.heap.size (Nat.le_refl _)
  have B0 := Lib.hid (show Below w6.heap.size w6 (w6.drew.alloc (.cells #[] it)) from (Below.refl _ _).drew.alloc (Nat.le_refl _) _)
  rw [show w6.drew.heap.size = w6.heap.size from rfl] at cB O0
  have HO0 := Lib.hid O0
  clear O0
  generalize w6.drew.alloc (.cells #[] it) = w7 at *
  go_simp
  refine hK.out _ _ (HS2.out _ B0.out) (fun hHeld hInv => ?_)
  clear hK K
  try simp only [List.getElem_cons_succ, List.getElem_cons_zero, Act.put, List.setIfInBounds_toArray, List.set_cons_zero, List.set_cons_succ]
  refine z_ready 8 (by kernel_rfl) (by kernel_rfl) (by kernel_rfl) (by assumption) (fun K hK => ?_)
  simp only [List.getElem_cons_succ, List.getElem_cons_zero]
  rw [if_pos (by rfl)]
  refine wp_app_s (.tmp 24) (.tmp 30) 52 rfl w6.heap.size it (z := .int .i64 0) (by decide) Try.underlying52 knum_info rfl _ 0 [] (by simp [Act.eval, Act.put]) HO0.out qT k cT ((pts P).take k) (by simp [Act.eval, Act.put]) (HA3.out.below B0.out) (by rw [HE3.out]) HN3.out (by omega) (one_pts P _).1 (by omega) (by unfold maxLen; omega) (B0.out.size) ?_
  intro v8 w8 hvv8 hgv8 _
  have B8 := Lib.hid (grown_below B0.out hgv8 (fun g e => (own_base_w HO0.out g e).1) B0.out.size)
  try rw [HNN.out] at hvv8
  have O8 := Lib.hid hvv8
  clear hvv8 hgv8
  refine hK.out _ _ (HS2.out _ B8.out) (fun hHeld hInv => ?_)
  clear hK K
  try simp only [List.getElem_cons_succ, List.getElem_cons_zero, Act.put, List.setIfInBounds_toArray, List.set_cons_zero, List.set_cons_succ]
  refine z_ready 16 (by kernel_rfl) (by kernel_rfl) (by kernel_rfl) (by assumption) (fun K hK => ?_)
  simp only [List.getElem_cons_succ, List.getElem_cons_zero]
  rw [if_pos (by rfl)]
  refine wp_app_s (.tmp 31) (.tmp 38) 52 rfl w6.heap.size it (z := .int .i64 0) (by decide) Try.underlying52 knum_info rfl _ (0 + k) ([] ++ (pts P).take k) (by simp [Act.eval, Act.put]) O8.out q4 (n - (k + 1)) (cT - (k + 1)) ((pts P).drop (k + 1)) (by simp [Act.eval, Act.put]) (HA4.out.below B8.out) (by rw [HE4.out]) HN4.out (by omega) (one_pts P _).2 (by omega) (by unfold maxLen; omega) (B8.out.size) ?_
  intro v9 w9 hvv9 hgv9 _
  have B9 := Lib.hid (grown_below B8.out hgv9 (fun g e => (own_base_w O8.out g e).1) B8.out.size)
  try rw [HNN.out] at hvv9
  have O9 := Lib.hid hvv9
  clear hvv9 hgv9
  refine hK.out _ _ (HS2.out _ B9.out) (fun hHeld hInv => ?_)
  clear hK K
  try simp only [List.getElem_cons_succ, List.getElem_cons_zero, Act.put, List.setIfInBounds_toArray, List.set_cons_zero, List.set_cons_succ]
  refine z_take 17 (by kernel_rfl) (v := ?v31) (by kernel_rfl) (by kernel_rfl) (by kernel_rfl) (by kernel_rfl) (fun _ _ _ h => h) (by rfl) ?y31 (by assumption) (by assumption) ?r31
  case y31 => (intro w hSw; (try dsimp only at hSw); (obtain ⟨hSa, hSb⟩ := hSw); simp only [List.getElem_cons_succ, List.getElem_cons_zero]; go_simp; (try with_reducible rfl))
  clear hInv; intro hInv
  try simp only [List.getElem_cons_succ, List.getElem_cons_zero, Act.put, List.setIfInBounds_toArray, List.set_cons_zero, List.set_cons_succ]
  refine z_take 18 (by kernel_rfl) (v := ?v32) (by kernel_rfl) (by kernel_rfl) (by kernel_rfl) (by kernel_rfl) (fun _ _ _ h => h) (by rfl) ?y32 (by assumption) (by assumption) ?r32
  case y32 => (intro w hSw; (try dsimp only at hSw); (obtain ⟨hSa, hSb⟩ := hSw); simp only [List.getElem_cons_succ, List.getElem_cons_zero]; go_simp; (try with_reducible rfl))
  clear hInv; intro hInv
  try simp only [List.getElem_cons_succ, List.getElem_cons_zero, Act.put, List.setIfInBounds_toArray, List.set_cons_zero, List.set_cons_succ]
  refine z_last 19 (by kernel_rfl) rfl (by kernel_rfl) (by kernel_rfl) (fun K hK => ?_)
  simp only [List.getElem_cons_succ, List.getElem_cons_zero]
  go_simp
  obtain ⟨p9, c9, hv, _, _, _, _, _⟩ := own_at_s O9.out
  subst hv
  have K9 := Lib.hid (K6.out.upon B9.out)
  have d9 : w9.cell? ⟨b, 2, none⟩ = some (.slice qT n cT) := K9.out.cell 2
  have f9 : w9.frozen? ⟨b, 2, none⟩ = false := K9.out.free 2
  (try go_simp)
  refine hK.out _ _ ?_
  clear hK K
  go_wp2_with fail
  first
    | go_ret
    | go_end0
  refine HEND.out _ _ (by have := B9.out; rw [W6.out] at this; exact this) ?_ _
  have := O9.out
  rw [List.nil_append, pts_erase, W6.out] at this
  exact this
end
end Go.Proofs.Ytgohapbobbkaeaa
