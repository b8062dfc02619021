/-
  The program's buffer: made, none, how many words, the limit.
-/
import Derived.Test.YtgohapbobbkaeaaGsA
import Derived.Test.YtgohapbobbkaeaaTFind
import Derived.Lib.Strings
import Derived.Lib.Small
import Derived.Lib.Walk
import Derived.Lib.BitFns
namespace Go.Proofs.Ytgohapbobbkaeaa
set_option linter.unusedSimpArgs false
set_option linter.unusedVariables false
open Go.RowKit Sha
section
variable {P : Program}
theorem run_neq_ptr_sameG {tp te : TypeId} {j : TypeInfo} (a : Addr) (hp : P.underlying tp = some (.pointer te)) (hte : P.info? te = some j) (w : World) :
    (binOp .neq tp (.pointer (some a)) (.pointer (some a))).run P w = .ok (.bool false) w := by
  have h : ∀ d : Nat, (Op.equalIn (d + 1) tp (.pointer (some a)) (.pointer (some a))).run P w = .ok true w := fun d => by
    simp [Op.equalIn, run_underlying hp, typeInfo, sizeOf, run_sameAddr_same, hte]
  simp only [binOp]
  simp [Op.equal, Op.maxDepth, h 9999]
theorem run_neq_ptr_nilG {tp te : TypeId} (a : Addr) (hp : P.underlying tp = some (.pointer te)) (w : World) :
    (binOp .neq tp (.pointer none) (.pointer (some a))).run P w = .ok (.bool true) w := by
  have h : ∀ d : Nat, (Op.equalIn (d + 1) tp (.pointer none) (.pointer (some a))).run P w = .ok false w := fun d => by
    simp [Op.equalIn, run_underlying hp]
  simp only [binOp]
  simp [Op.equal, Op.maxDepth, h 9999]
end
theorem info_gossip : ∃ j, Try.prog.info? 47 = some j := by
  have h : (Try.prog.info? 47).isSome = true := by kernel_rfl
  exact Option.isSome_iff_exists.1 h
def GRep : GRepT := fun w b fp s => LineRep w b fp (optr b) (v64 s.1) s.2 ∧ Gs.OK s.1 s.2
theorem GRep.line {w : World} {b : Nat} {fp : List Nat} {N : Nat} {l : List Tl} (h : GRep w b fp (N, l)) : LineRep w b fp (optr b) (v64 N) l := h.1
theorem gHeld : Held GRep where
  low := fun {w b fp s} h k hk => by
    obtain ⟨⟨v, rfl, hb, ho, hne⟩, _⟩ := h
    rcases List.mem_cons.1 hk with rfl | hk
    · exact hb.lt
    · exact (own_base_w ho k (by simpa using hk)).2
  keep := fun {w w' b fp s} h hk => by
    obtain ⟨⟨v, rfl, hb, ho, hne⟩, h2⟩ := h
    exact ⟨⟨v, rfl, (hk b (by simp)).trans hb, ownsRow_keep ho fun g e => hk g (by rw [e]; simp), hne⟩, h2⟩
theorem GRep.cells {w : World} {b : Nat} {fp : List Nat} {N : Nat} {l : List Tl} (h : GRep w b fp (N, l)) : ∃ q c, Blk w b [optr b, v64 N, .slice q l.length c, snf] gt := by
  obtain ⟨⟨v, _, hb, ho, _⟩, _⟩ := h
  obtain ⟨q, c, hv, _⟩ := own_at_s ho
  dsimp only at hv hb
  exact ⟨q, c, hv ▸ hb⟩
section
attribute [local go_sem ↓] execOp_loadM execOp_loadT execOp_storeT execOp_buildT execOp_sliceT
set_option maxHeartbeats 1000000 in
theorem gnew_any (n : Int) (w : World) (hn : -9223372036854775808 ≤ n ∧ n ≤ 9223372036854775807) : Calls Try.prog 8 #[v64 n] w (GNewDone GRep n w) := by
  by_cases h1 : n < 1
  · have t1 : decide (n < 1) = true := decide_eq_true h1
    go_enter Try.func8, Try.ntmps8
    go_wp2_with fail
    go_ret2
    exact ⟨Below.refl _ _, Or.inr ⟨by omega, rfl⟩⟩
  · by_cases h2 : 64 < n
    · have t1 : decide (n < 1) = false := decide_eq_false h1
      have t2 : decide (64 < n) = true := decide_eq_true h2
      go_enter Try.func8, Try.ntmps8
      go_wp2_with fail
      go_ret2
      exact ⟨Below.refl _ _, Or.inr ⟨by omega, rfl⟩⟩
    · have t1 : decide (n < 1) = false := decide_eq_false h1
      have t2 : decide (64 < n) = false := decide_eq_false h2
      have HN := Lib.hid (show 1 ≤ n ∧ n ≤ 64 by omega)
      clear h1 h2
      go_enter Try.func8, Try.ntmps8
      go_wp2_with fail
      go_ret2
      have hn2 := HN.out
      refine ⟨(Below.refl _ _).alloc (Nat.le_refl _) _, Or.inl ⟨HN.out, w.heap.size, [w.heap.size], rfl, ⟨⟨.slice none 0 0, rfl, ?_, World.ownsRow_nil _ _ _ _, by intro h; cases h⟩, Gs.OK.nil (by omega) (by omega)⟩, by simp⟩⟩
      dsimp only
      rw [show ((n.toNat : Nat) : Int) = n by omega]
      exact Blk.new w #[optr w.heap.size, v64 n, .slice none 0 0, snf] gt
theorem gnone_any (b : Nat) (vs : List Value) (w : World) (h : Blk w b (optr b :: vs) gt) : Calls Try.prog 28 #[optr b] w fun e w' => e = .returned (.bool false) ∧ w' = w := by
  have c0 : w.cell? ⟨b, 0, none⟩ = some (optr b) := h.cell 0
  obtain ⟨j, hj⟩ := info_gossip
  have hq := run_neq_ptr_sameG (P := Try.prog) ⟨b, 0, none⟩ Try.underlying23 hj
  clear h
  go_enter Try.func28, Try.ntmps28
  go_wp2_with fail
  go_ret
  exact ⟨rfl, rfl⟩
theorem glen_any (b : Nat) (fp : List Nat) (N : Nat) (l : List Tl) (w : World) (h : GRep w b fp (N, l)) : Calls Try.prog 16 #[optr b] w (GQDone (v64 l.length) w) := by
  obtain ⟨q, c, hb⟩ := h.cells
  have c2 : w.cell? ⟨b, 2, none⟩ = some (.slice q l.length c) := hb.cell 2
  have HN := Lib.hid (gnone_any b _ w hb)
  generalize l.length = n at *
  clear h hb
  go_enter Try.func16, Try.ntmps16
  go_wp2_with fail
  refine HN.out.mono ?_
  rintro e w' ⟨rfl, rfl⟩
  go_wp2_with fail
  go_ret
  exact ⟨rfl, 0, rfl⟩
/-! ### bits.Len of a small number -/
set_option maxHeartbeats 4000000 in
set_option maxRecDepth 100000 in
theorem len64_any (x : Int) (w : World) (h0 : 0 ≤ x) (h : x ≤ 64) : Calls Try.prog 52 #[.int .u64 x] w fun e w' => e = .returned (.int .i64 (Lib.bitLen x.toNat)) ∧ w' = w := by
  have t1 : decide (4294967296 ≤ x) = false := decide_eq_false (by omega)
  have t2 : decide (65536 ≤ x) = false := decide_eq_false (by omega)
  have t3 : decide (256 ≤ x) = false := decide_eq_false (by omega)
  have H0 := Lib.hid h0
  have H1 := Lib.hid h
  clear h0 h
  go_enter Try.func52, Try.ntmps52
  go_wp2
  all_goals (go_ret; refine ⟨congrArg Ending.returned (congrArg (Value.int IntKind.i64) ?_), rfl⟩)
  have h0 := H0.out
  have h1 := H1.out
  rw [Lib.len8_of (x % 256) (by omega) (by omega), show x % 256 = x by omega]
  have l := Gs.bit_le ⟨x.toNat, by omega⟩
  simp only at l
  have e : wrap64 (Lib.bitLen x.toNat : Int) = (Lib.bitLen x.toNat : Int) := by have := IntWalk.i64_in (Lib.bitLen x.toNat : Int) (by omega); simpa [IntKind.wrap_i64, wrap64] using this
  rw [e, e]
theorem len_any (x : Int) (w : World) (h0 : 0 ≤ x) (h : x ≤ 64) : Calls Try.prog 37 #[.int .u64 x] w fun e w' => e = .returned (.int .i64 (Lib.bitLen x.toNat)) ∧ w' = w := by
  go_enter Try.func37, Try.ntmps37
  go_wp2_with (go_at_call 52; refine (len64_any x _ h0 h).mono ?_; rintro e w' ⟨rfl, rfl⟩)
  go_ret
  exact ⟨rfl, rfl⟩
theorem glim_any (b : Nat) (fp : List Nat) (N : Nat) (l : List Tl) (w : World) (h : GRep w b fp (N, l)) : Calls Try.prog 18 #[optr b] w (GQDone (v64 (Gs.lim N)) w) := by
  obtain ⟨q, c, hb⟩ := h.cells
  have hN : 1 ≤ N ∧ N ≤ 64 := ⟨h.2.n1, h.2.n2⟩
  have c1 : w.cell? ⟨b, 1, none⟩ = some (v64 N) := hb.cell 1
  have HN := Lib.hid (gnone_any b _ w hb)
  have HL := Lib.hid (len_any (N : Int) w (by omega) (by omega))
  have hlim := Gs.lim_le hN.2
  have HE := Lib.hid (show (3 : Int) * (Lib.bitLen N : Int) = (Gs.lim N : Int) by unfold Gs.lim; omega)
  have i1 : IntKind.i64.wrap (3 * (Lib.bitLen N : Int)) = 3 * (Lib.bitLen N : Int) := IntWalk.i64_in _ (by have := HE.out; omega)
  rw [Int.toNat_natCast] at HL
  generalize Lib.bitLen N = L at *
  have hN1 : IntKind.u64.wrap (N : Int) = N := by rw [IntKind.wrap_u64]; omega
  clear h hb hlim
  go_enter Try.func18, Try.ntmps18
  go_wp2_with fail
  refine HN.out.mono ?_
  rintro e w' ⟨rfl, rfl⟩
  go_wp2_with fail
  refine HL.out.mono ?_
  rintro e w' ⟨rfl, rfl⟩
  go_wp2_with fail
  go_ret
  exact ⟨by rw [← HE.out]; rfl, 0, rfl⟩
end
end Go.Proofs.Ytgohapbobbkaeaa
