/-
  The reference's buffer: how it lies, made, how many words, the limit.
-/
import Derived.Test.YtgohapbobbkaeaaGsA
import Derived.Test.YtgohapbobbkaeaaSlcG
import Derived.Test.YtgohapbobbkaeaaMbR
import Derived.BigQuiet
import Derived.Deep.QuietTactic
namespace Go.Proofs.Ytgohapbobbkaeaa
set_option linter.unusedSimpArgs false
set_option linter.unusedVariables false
open Go.RowKit Sha
abbrev rgt : TypeId := 62
abbrev it : TypeId := 3
abbrev pms (P : List Tl) : List Value := (P.map (·.m)).flatMap mc
abbrev pts (P : List Tl) : List Value := P.map fun x => .int .i64 (x.t : Int)
theorem pms_len (P : List Tl) : (pms P).length = P.length * 3 := by rw [wflat_length, List.length_map]
theorem pts_len (P : List Tl) : (pts P).length = P.length := by rw [List.length_map]
/-- The words in whatever order, and the counts beside them. -/
def RefRaw (w : World) (b : Nat) (fp : List Nat) (N : Nat) (P : List Tl) : Prop :=
  ∃ vL vT, fp = b :: (vL.ownBlock.toList ++ vT.ownBlock.toList) ∧ Blk w b [v64 N, vL, vT] rgt ∧ w.ownsRow 0 mt 3 vL P.length (pms P) ∧ w.ownsRow 0 it 1 vT P.length (pts P) ∧ vL.ownBlock ≠ some b ∧ vT.ownBlock ≠ some b ∧ ∀ k, vL.ownBlock = some k → vT.ownBlock ≠ some k
def RGRep : GRepT := fun w b fp s => ∃ P : List Tl, P.Perm s.2 ∧ RefRaw w b fp s.1 P ∧ Gs.OK s.1 s.2
theorem ownsRow_keepR {w w' : World} {B n size : Nat} {e : TypeId} {v : Value} {xs : List Value} (h : w.ownsRow B e size v n xs) (hk : ∀ g, v.ownBlock = some g → w'.heap[g]? = w.heap[g]?) : w'.ownsRow B e size v n xs := by
  refine ⟨h.1, ?_⟩
  rcases h.2 with h | ⟨g, cap, cur, hv, hg, hh, h4⟩
  · exact Or.inl h
  · exact Or.inr ⟨g, cap, cur, hv, hg, by rw [hk g (by rw [hv]; rfl)]; exact hh, h4⟩
theorem RefRaw.low {w : World} {b : Nat} {fp : List Nat} {N : Nat} {P : List Tl} (h : RefRaw w b fp N P) : ∀ k ∈ fp, k < w.heap.size := fun k hk => by
  obtain ⟨vL, vT, rfl, hb, hL, hT, _⟩ := h
  rcases List.mem_cons.1 hk with rfl | hk
  · exact hb.lt
  · rcases List.mem_append.1 hk with hk | hk
    · exact (own_base_w hL k (by simpa using hk)).2
    · exact (own_base_w hT k (by simpa using hk)).2
theorem RefRaw.keep {w w' : World} {b : Nat} {fp : List Nat} {N : Nat} {P : List Tl} (h : RefRaw w b fp N P) (hk : ∀ k ∈ fp, w'.heap[k]? = w.heap[k]?) : RefRaw w' b fp N P := by
  obtain ⟨vL, vT, rfl, hb, hL, hT, h1, h2, h3⟩ := h
  exact ⟨vL, vT, rfl, (hk b (by simp)).trans hb, ownsRow_keepR hL fun g e => hk g (by rw [e]; simp), ownsRow_keepR hT fun g e => hk g (by rw [e]; simp), h1, h2, h3⟩
theorem RefRaw.on {w w' : World} {b : Nat} {fp : List Nat} {N : Nat} {P : List Tl} (h : RefRaw w b fp N P) (hb : Below w.heap.size w w') : RefRaw w' b fp N P := h.keep fun k hk => hb.block k (h.low k hk)
theorem RefRaw.mem {w : World} {b : Nat} {fp : List Nat} {N : Nat} {P : List Tl} (h : RefRaw w b fp N P) : b ∈ fp := by obtain ⟨vL, vT, rfl, _⟩ := h; simp
theorem rgHeld : Held RGRep where
  low := fun {w b fp s} h => by obtain ⟨P, _, hr, _⟩ := h; exact hr.low
  keep := fun {w w' b fp s} h hk => by obtain ⟨P, hp, hr, ho⟩ := h; exact ⟨P, hp, hr.keep hk, ho⟩
/-- The three cells, and what lies behind the two slices. -/
theorem RefRaw.cells {w : World} {b : Nat} {fp : List Nat} {N : Nat} {P : List Tl} (h : RefRaw w b fp N P) : ∃ qL cL qT cT, Blk w b [v64 N, .slice qL P.length cL, .slice qT P.length cT] rgt ∧ At w qL (pms P) ∧ At w qT (pts P) ∧ P.length ≤ cL ∧ cL ≤ maxLen ∧ P.length ≤ cT ∧ cT ≤ maxLen := by
  obtain ⟨vL, vT, _, hb, hL, hT, _⟩ := h
  obtain ⟨qL, cL, hvL, l1, l2, hAL, _⟩ := own_at_s hL
  obtain ⟨qT, cT, hvT, l3, l4, hAT, _⟩ := own_at_s hT
  exact ⟨qL, cL, qT, cT, by rw [hvL, hvT] at hb; exact hb, hAL, hAT, l1, l2, l3, l4⟩
section
attribute [local go_sem ↓] execOp_loadM execOp_storeM execOp_eqlM execOp_buildM
set_option maxHeartbeats 1000000 in
theorem rgnew_any (n : Int) (w : World) (hn : -9223372036854775808 ≤ n ∧ n ≤ 9223372036854775807) : Calls Try.prog 9 #[v64 n] w (GNewDone RGRep n w) := by
  by_cases h1 : n < 1
  · have t1 : decide (n < 1) = true := decide_eq_true h1
    go_enter Try.func9, Try.ntmps9
    go_wp2_with fail
    go_ret2
    exact ⟨Below.refl _ _, Or.inr ⟨by omega, rfl⟩⟩
  · by_cases h2 : 64 < n
    · have t1 : decide (n < 1) = false := decide_eq_false h1
      have t2 : decide (64 < n) = true := decide_eq_true h2
      go_enter Try.func9, Try.ntmps9
      go_wp2_with fail
      go_ret2
      exact ⟨Below.refl _ _, Or.inr ⟨by omega, rfl⟩⟩
    · have t1 : decide (n < 1) = false := decide_eq_false h1
      have t2 : decide (64 < n) = false := decide_eq_false h2
      have HN := Lib.hid (show 1 ≤ n ∧ n ≤ 64 by omega)
      clear h1 h2
      go_enter Try.func9, Try.ntmps9
      go_wp2_with fail
      go_ret2
      have hn2 := HN.out
      refine ⟨(Below.refl _ _).alloc (Nat.le_refl _) _, Or.inl ⟨HN.out, w.heap.size, [w.heap.size], rfl, ⟨[], List.Perm.refl _, ⟨.slice none 0 0, .slice none 0 0, rfl, ?_, World.ownsRow_nil _ _ _ _, World.ownsRow_nil _ _ _ _, (by intro h; cases h), (by intro h; cases h), (by intro k h; cases h)⟩, Gs.OK.nil (by omega) (by omega)⟩, by simp⟩⟩
      dsimp only
      rw [show ((n.toNat : Nat) : Int) = n by omega]
      exact Blk.new w #[v64 n, .slice none 0 0, .slice none 0 0] rgt
theorem rglen_any (b : Nat) (fp : List Nat) (N : Nat) (l : List Tl) (w : World) (h : RGRep w b fp (N, l)) : Calls Try.prog 17 #[optr b] w (GQDone (v64 l.length) w) := by
  obtain ⟨P, hp, hr, ho⟩ := h
  obtain ⟨qL, cL, qT, cT, hb, _⟩ := hr.cells
  have hpl : P.length = l.length := hp.length_eq
  rw [hpl] at hb
  have c1 : w.cell? ⟨b, 1, none⟩ = some (.slice qL l.length cL) := hb.cell 1
  generalize l.length = n at *
  clear hr hb hp ho hpl
  go_enter Try.func17, Try.ntmps17
  go_wp2_with fail
  go_ret
  exact ⟨rfl, 0, rfl⟩
set_option maxHeartbeats 1000000 in
theorem rlim_raw (b N : Nat) (vs : List Value) (w : World) (h : Blk w b (v64 N :: vs) rgt) (h2 : N ≤ 64) : Calls Try.prog 19 #[optr b] w fun e w' => e = .returned (v64 (Gs.lim N)) ∧ w = w' := by
  have c0 : w.cell? ⟨b, 0, none⟩ = some (.int .i64 N) := h.cell 0
  have hl := Gs.lim_le h2
  clear h
  go_enter Try.func19, Try.ntmps19
  go_wp2_with fail
  go_loop [3, 4] (fun o n => ∃ a k : Nat, o = .int .i64 a ∧ n = .int .i64 k ∧ k ≤ 64 ∧ Hid (a + Gs.lim k = Gs.lim N)) (fun _ n => (intOf n).toNat)
  case atStart => exact ⟨0, N, rfl, rfl, h2, Lib.hid (by omega)⟩
  case round =>
    obtain ⟨a, k, rfl, rfl, hk, HA⟩ := hrel
    by_cases h0 : 0 < k
    · have hh := Gs.lim_half h0 hk
      have HA2 := Lib.hid (show (a + 3) + Gs.lim (k / 2) = Gs.lim N by have := HA.out; omega)
      have ha : a ≤ 21 := by have := HA.out; omega
      have t1 : decide ((0 : Int) < (k : Int)) = true := decide_eq_true (by omega)
      have t2 : decide (0 < k) = true := decide_eq_true h0
      have i1 : IntKind.i64.wrap ((a : Int) + 3) = (a : Int) + 3 := IntWalk.i64_in _ (by omega)
      clear hh HA
      go_wp2_with fail
      go_round
      case rel => exact ⟨a + 3, k / 2, by go_num, by congr 1, by omega, HA2⟩
      case measure => simp [intOf]; omega
    · obtain rfl : k = 0 := by omega
      have HV := Lib.hid (show a = Gs.lim N by have := HA.out; rw [Gs.lim_zero] at this; omega)
      clear HA
      go_wp2_with fail
      go_ret
      exact ⟨by rw [HV.out]; rfl, rfl⟩
theorem rglim_any (b : Nat) (fp : List Nat) (N : Nat) (l : List Tl) (w : World) (h : RGRep w b fp (N, l)) : Calls Try.prog 19 #[optr b] w (GQDone (v64 (Gs.lim N)) w) := by
  obtain ⟨P, hp, hr, ho⟩ := h
  obtain ⟨qL, cL, qT, cT, hb, _⟩ := hr.cells
  exact (rlim_raw b N _ w hb ho.n2).mono (by rintro e w' ⟨rfl, rfl⟩; exact ⟨rfl, 0, rfl⟩)
end
end Go.Proofs.Ytgohapbobbkaeaa
