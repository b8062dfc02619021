/-
  The reader's memory; how a number is read.
-/
import Derived.Test.YtgakmkglejddeaaFldD
import Derived.Test.YtgakmkglejddeaaStr
import Derived.WalkSpells
import Derived.Deep.LoopGhost
import Derived.ScopeJumps
import Derived.BigQuiet
import Derived.Deep.QuietTactic
namespace Go.Proofs.Ytgakmkglejddeaa
set_option linter.unusedSimpArgs false
set_option linter.unusedVariables false
open Go.RowKit Sha
open Fld (Itm)
/-- A goto ahead: what stands behind the label is walked from each goto. -/
theorem wp_scope_ahead {P : Program} {a : Act} {w : World} {Q : Exit → Act → World → Prop} {c rest : Code} (l : Nat) (hf : findLabel c l = some rest)
    (first : c.wp P (Exit.jump l (fun a' w' => rest.wp P (Exit.noGoto Q) a' w') Q) a w) : (Code.scope c).wp P Q a w :=
  wp_scope_jumps l (fun a' w' => rest.wp P (Exit.noGoto Q) a' w') (fun _ _ => 0) hf first fun a' w' h => wp_mono h fun e a₁ w₁ hq => by
    cases e with
    | goto l => exact hq.elim
    | normal => exact hq
    | exit id => exact hq
    | ret => exact hq
    | panic ch => exact hq
    | outgrown => exact hq
/-! ### Only block ga, and what is new, has turned -/
theorem only_refl (w : World) (ga : Nat) : w.grownBy w (some ga) := ⟨rfl, rfl, rfl, Nat.le_refl _, fun _ _ _ => rfl⟩
theorem only_drew {a w : World} {row : Option Nat} (h : a.grownBy w row) : a.grownBy w.drew row := ⟨h.os, h.tape, h.output, h.size, h.block⟩
theorem only_drewN {a w : World} {row : Option Nat} (h : a.grownBy w row) (n : Nat) : a.grownBy (w.drewN n) row := ⟨h.os, h.tape, h.output, h.size, h.block⟩
theorem only_set {a w : World} {ga : Nat} (h : a.grownBy w (some ga)) (i : Nat) (u : Value) : a.grownBy (w.setCell ⟨ga, i, none⟩ u) (some ga) :=
  ⟨h.os, h.tape, h.output, by simpa [World.setCell] using h.size, fun k hk hne => (Below.heap_setCell w _ u k (by rintro rfl; exact hne rfl)).trans (h.block k hk hne)⟩
theorem only_trans {a b c : World} {ga : Nat} (h : a.grownBy b (some ga)) (k : b.grownBy c (some ga)) : a.grownBy c (some ga) :=
  ⟨k.os.trans h.os, k.tape.trans h.tape, k.output.trans h.output, Nat.le_trans h.size k.size, fun i hi hn => (k.block i (Nat.lt_of_lt_of_le hi h.size) hn).trans (h.block i hi hn)⟩
theorem only_below {a b c : World} {ga : Nat} (h : a.grownBy b (some ga)) (k : Below b.heap.size b c) : a.grownBy c (some ga) :=
  ⟨k.os.trans h.os, k.tape.trans h.tape, k.output.trans h.output, Nat.le_trans h.size k.size, fun i hi hn => (k.block i (Nat.lt_of_lt_of_le hi h.size)).trans (h.block i hi hn)⟩
theorem below_only {a b c : World} {ga B : Nat} (h : Below B a b) (k : b.grownBy c (some ga)) (hB : B ≤ ga) (hs : B ≤ b.heap.size) : Below B a c :=
  h.trans ⟨k.os, k.tape, k.output, k.size, fun i hi => k.block i (by omega) (by intro e; have := Option.some.inj e; omega)⟩
theorem others_only {a b : World} {ga : Nat} (h : a.grownBy b (some ga)) (e : TypeId) : Lib.OthersKept e (some ga) a b := fun i o hi hb _ => by
  have hlt : i < a.heap.size := (Array.getElem?_eq_some_iff.1 hi).1
  rw [h.block i hlt hb]; exact hi
theorem rd_cons_more {i acc : Nat} {x : Int} {r : List Int} (h9 : i ≠ 9) (h : 128 ≤ x) : Fld.rd i acc (x :: r) = Fld.rd (i + 1) (acc + (x % 128).toNat * 128 ^ i) r := by
  rw [Fld.rd, if_neg h9, if_pos h]
theorem rd_cons_nine {acc : Nat} {x : Int} {r : List Int} : Fld.rd 9 acc (x :: r) = (10, 0, 0) := by rw [Fld.rd, if_pos rfl]
theorem rd_cons_form {i acc : Nat} {x : Int} {r : List Int} (h9 : i ≠ 9) (h : ¬ 128 ≤ x) (hf : (x = 0 ∧ 0 < i) ∨ 4611686018427387903 < acc + (x % 128).toNat * 128 ^ i) : Fld.rd i acc (x :: r) = (10, 0, 0) := by
  rw [Fld.rd, if_neg h9, if_neg h, if_pos hf]
theorem rd_cons_last {i acc : Nat} {x : Int} {r : List Int} (h9 : i ≠ 9) (h : ¬ 128 ≤ x) (hf : ¬ ((x = 0 ∧ 0 < i) ∨ 4611686018427387903 < acc + (x % 128).toNat * 128 ^ i)) : Fld.rd i acc (x :: r) = (0, ((acc + (x % 128).toNat * 128 ^ i : Nat) : Int), i + 1) := by
  rw [Fld.rd, if_neg h9, if_neg h, if_neg hf]
theorem pow128 (i : Nat) : (2 : Nat) ^ (7 * i) = 128 ^ i := by rw [Nat.pow_mul]
theorem pow128_le (i : Nat) (h : i ≤ 8) : (128 : Nat) ^ i ≤ 72057594037927936 := by
  calc (128 : Nat) ^ i ≤ 128 ^ 8 := Nat.pow_le_pow_right (by omega) h
    _ = 72057594037927936 := by decide
theorem or_step (acc i : Nat) (x : Int) (hi : i ≤ 8) (ha : acc < 128 ^ i) (hx : 0 ≤ x ∧ x ≤ 255) :
    bits BinOp.or IntKind.i64 (acc : Int) (wrap64 (x % 128 * 2 ^ (7 * i))) = ((acc + (x % 128).toNat * 128 ^ i : Nat) : Int) := by
  obtain ⟨y, hy⟩ : ∃ y : Nat, x % 128 = (y : Int) := ⟨(x % 128).toNat, by omega⟩
  have hy1 : y ≤ 127 := by omega
  have hp := pow128_le i hi
  have hmul : y * 128 ^ i ≤ 127 * 72057594037927936 := Nat.mul_le_mul hy1 hp
  rw [hy, Int.toNat_natCast]
  have e1 : (y : Int) * 2 ^ (7 * i) = ((y * 128 ^ i : Nat) : Int) := by
    rw [← pow128]; push_cast; rfl
  rw [e1]
  have e2 : wrap64 ((y * 128 ^ i : Nat) : Int) = ((y * 128 ^ i : Nat) : Int) := by unfold wrap64; omega
  rw [e2]
  show IntKind.i64.wrap ((BitVec.ofInt 64 (acc : Int) ||| BitVec.ofInt 64 ((y * 128 ^ i : Nat) : Int)).toNat : Int) = _
  have h1 : (BitVec.ofInt 64 (acc : Int)).toNat = acc := by rw [BitVec.toNat_ofInt]; omega
  have h2 : (BitVec.ofInt 64 ((y * 128 ^ i : Nat) : Int)).toNat = y <<< (7 * i) := by
    rw [BitVec.toNat_ofInt, Nat.shiftLeft_eq, pow128]; omega
  rw [BitVec.toNat_or, h1, h2, Nat.or_comm, ← Nat.shiftLeft_add_eq_or_of_lt (by rw [pow128]; exact ha), Nat.shiftLeft_eq, pow128, IntWalk.i64_in _ (by omega)]
  omega
theorem or_lt (acc i : Nat) (x : Int) (ha : acc < 128 ^ i) (hx : 0 ≤ x ∧ x ≤ 255) : acc + (x % 128).toNat * 128 ^ i < 128 ^ (i + 1) := by
  obtain ⟨y, hy⟩ : ∃ y : Nat, x % 128 = (y : Int) := ⟨(x % 128).toNat, by omega⟩
  rw [hy, Int.toNat_natCast, Nat.pow_succ, Nat.mul_comm (128 ^ i) 128]
  have hy1 : y ≤ 127 := by omega
  have := Nat.mul_le_mul_right (128 ^ i) hy1
  omega
/-- What a number's reading leaves: the place. -/
def NDone (ga : Nat) (bv v : Value) (r : Int × Int × Nat) (at_ : Nat) (w : World) (e : Ending) (w' : World) : Prop :=
  e = .returned (.tuple #[.int .i64 r.2.1, .int .i64 r.1]) ∧ Blk w' ga [bv, .int .i64 ((at_ + r.2.2 : Nat) : Int), v] 65 ∧ w.grownBy w' (some ga)
set_option maxRecDepth 100000 in
set_option maxHeartbeats 2000000 in
theorem rnum_any (w0 : World) (ga : Nat) (bs : List Int) (p : Option Addr) (n c : Nat) (v : Value) (at_ : Nat) (w : World) (hn : bs.length = n) (hb : ∀ x ∈ bs, 0 ≤ x ∧ x ≤ 255) (hA : At w0 p (bs.map v8)) (hB : Below w0.heap.size w0 w) (hga : w0.heap.size ≤ ga) (hc : n ≤ c) (hm : c ≤ 9223372036854775807) (hat : at_ ≤ n)
    (hK : Blk w ga [.slice p n c, .int .i64 at_, v] 65) :
    Calls Try.prog 43 #[.pointer (some ⟨ga, 0, none⟩)] w (NDone ga (.slice p n c) v (Fld.rd 0 0 (bs.drop at_)) at_ w) := by
  have HN := Lib.hid hn
  have HBD := Lib.hid hb
  have HA := Lib.hid hA
  have HB := Lib.hid hB
  have HK := Lib.hid hK
  have e1 : w.cell? ⟨ga, 1, none⟩ = some (.int .i64 at_) := hK.cell 1
  clear hn hb hA hB hK
  go_enter Try.func43, Try.ntmps43
  go_wp2_with fail
  refine wp_scope_ahead 0 rfl ?_
  go_wp2_with fail
  go_loopg [2, 3, 5] 10 (fun gh n0 e0 i0 wr => ∃ (i acc : Nat), i ≤ 9 ∧ gh = 10 - i ∧ n0 = .int .i64 acc ∧ e0 = .int .i64 0 ∧ i0 = .int .i64 i ∧ acc < 128 ^ i ∧ at_ + i ≤ n ∧ Hid (Fld.rd 0 0 (bs.drop at_) = Fld.rd i acc (bs.drop (at_ + i))) ∧ Hid (Blk wr ga [.slice p n c, .int .i64 ((at_ + i : Nat) : Int), v] 65) ∧ Hid (w.grownBy wr (some ga)))
  case atStart => exact ⟨0, 0, by omega, rfl, rfl, rfl, rfl, by simp, by omega, rfl, HK, only_refl _ _⟩
  case round =>
    obtain ⟨i, acc, hi, rfl, rfl, rfl, rfl, hacc, hai, HE, HK2, HO⟩ := hrel
    have c0 : wr.cell? ⟨ga, 0, none⟩ = some (.slice p n c) := HK2.out.cell 0
    have c1 : wr.cell? ⟨ga, 1, none⟩ = some (.int .i64 ((at_ + i : Nat) : Int)) := HK2.out.cell 1
    have f1 : wr.frozen? ⟨ga, 1, none⟩ = false := HK2.out.free 1
    have hacc2 := Lib.hid hacc
    clear hacc
    obtain ⟨at2, ha2⟩ : ∃ a, a = at_ + i := ⟨_, rfl⟩
    rw [← ha2] at c1 hai
    have HA2 := Lib.hid ha2
    clear ha2
    by_cases hend : at2 = n
    · have hend' : ((at2 : Int) == (n : Int)) = true := by rw [beq_iff_eq]; omega
      have HR := Lib.hid (show Fld.rd 0 0 (bs.drop at_) = (4, 0, i) by rw [HE.out, ← HA2.out, hend, ← HN.out, List.drop_length]; rfl)
      clear hend
      go_wp2_with fail
      go_quiet (fail)
      go_wp2_with fail
      go_step3
      refine ⟨rfl, ?_⟩
      go_wp2_with fail
      rw [Exit.noGoto_ret]
      go_ret2
      exact ⟨by rw [HR.out]; rfl, by rw [HR.out]; exact HK2.out.drewN nq, only_drewN HO.out nq⟩
    · have hend' : ((at2 : Int) == (n : Int)) = false := by rw [beq_eq_false_iff_ne]; omega
      have hlt : at2 < n := by omega
      have hlb : at2 < bs.length := by rw [HN.out]; exact hlt
      obtain ⟨x, hx⟩ : ∃ x, x = bs[at2] := ⟨_, rfl⟩
      have HD := Lib.hid (show bs.drop at2 = x :: bs.drop (at2 + 1) by rw [hx]; exact List.drop_eq_getElem_cons hlb)
      have hx0 : 0 ≤ x ∧ x ≤ 255 := HBD.out x (by rw [hx]; exact List.getElem_mem hlb)
      obtain ⟨b, off, rfl, hcell⟩ := HA.out.addr (by rw [List.length_map]; omega)
      have hx1 : w0.cell? ⟨b, off + at2, none⟩ = some (v8 x) := hcell _ _ (by rw [List.getElem?_map, List.getElem?_eq_getElem hlb, hx]; rfl)
      have HBW := Lib.hid (below_only HB.out HO.out hga HB.out.size)
      have x1 : wr.cell? ⟨b, off + at2, none⟩ = some (v8 x) := (HBW.out.cell (p := ⟨b, off + at2, none⟩) (World.block_lt_of_cell? w0 _ hx1)).trans hx1
      have HE2 := Lib.hid (show Fld.rd 0 0 (bs.drop at_) = Fld.rd i acc (x :: bs.drop (at2 + 1)) by rw [HE.out, ← HA2.out, HD.out])
      clear hend hx hcell hx1 hlb HE
      by_cases h9 : i = 9
      · subst h9
        have HR := Lib.hid (HE2.out.trans rd_cons_nine)
        rw [show ((9 : Nat) : Int) = (9 : Int) from rfl]
        go_wp2_with fail
        go_quiet (fail)
        go_wp2_with fail
        go_step3
        refine ⟨rfl, ?_⟩
        go_wp2_with fail
        rw [Exit.noGoto_ret]
        go_ret2
        exact ⟨by rw [HR.out]; rfl, by rw [HR.out]; exact (HK2.out.drewN nq).set 1 _, only_set (only_drewN HO.out nq) 1 _⟩
      · have h9' : ((i : Int) == 9) = false := by rw [beq_eq_false_iff_ne]; omega
        have hi8 : i ≤ 8 := by omega
        have hor := or_step acc i x hi8 hacc2.out hx0
        have hml := or_lt acc i x hacc2.out hx0
        obtain ⟨m, hmm⟩ : ∃ m, m = acc + (x % 128).toNat * 128 ^ i := ⟨_, rfl⟩
        rw [← hmm] at hor hml
        have hm63 : m ≤ 9223372036854775807 := by
          have := Nat.pow_le_pow_right (n := 128) (by omega) (show i + 1 ≤ 9 by omega)
          have h9 : (128 : Nat) ^ 9 = 9223372036854775808 := by decide
          omega
        have HML := Lib.hid hml
        have HMM := Lib.hid hmm
        have H9 := Lib.hid h9
        clear h9 hml hmm
        by_cases h128 : 128 ≤ x
        · have HR := Lib.hid (HE2.out.trans (rd_cons_more H9.out h128))
          go_wp2_with fail
          go_quiet (fail)
          go_wp2_with fail
          go_quiet (fail)
          go_wp2_with fail
          go_roundg (10 - (i + 1))
          case measure => omega
          case rel =>
            refine ⟨i + 1, m, by omega, rfl, rfl, rfl, by go_num, HML.out, by have := HA2.out; omega, Lib.hid (by rw [HR.out, ← HMM.out, HA2.out, Nat.add_assoc]), Lib.hid ?_, Lib.hid (only_set (only_drewN HO.out _) 1 _)⟩
            rw [show ((at_ + (i + 1) : Nat) : Int) = (at2 : Int) + 1 by rw [HA2.out]; omega]
            exact (HK2.out.drewN _).set 1 _
        · have htr : (Blk wr ga [.slice (some ⟨b, off, none⟩) n c, .int .i64 at2, v] 65) := by have := HK2.out; rwa [← HA2.out] at this
          have HT := Lib.hid htr
          clear htr
          by_cases tm : 4611686018427387903 < m
          · by_cases t0 : x = 0
            · have t0' : (x == 0) = true := by simpa using t0
              clear t0
              by_cases ti : 0 < i
              · have HR := Lib.hid (HE2.out.trans (rd_cons_form H9.out h128 (by rw [← HMM.out]; exact Or.inr tm)))
                go_wp2_with fail
                go_quiet (fail)
                go_wp2_with fail
                go_quiet (fail)
                go_wp2_with fail
                go_step3
                refine ⟨rfl, ?_⟩
                go_wp2_with fail
                rw [Exit.noGoto_ret]
                go_ret2
                exact ⟨by rw [HR.out]; rfl, by rw [HR.out]; exact ((HK2.out.drewN _).set 1 _).set 1 _, only_set (only_set (only_drewN HO.out _) 1 _) 1 _⟩
              · have HR := Lib.hid (HE2.out.trans (rd_cons_form H9.out h128 (by rw [← HMM.out]; exact Or.inr tm)))
                go_wp2_with fail
                go_quiet (fail)
                go_wp2_with fail
                go_quiet (fail)
                go_wp2_with fail
                go_step3
                refine ⟨rfl, ?_⟩
                go_wp2_with fail
                rw [Exit.noGoto_ret]
                go_ret2
                exact ⟨by rw [HR.out]; rfl, by rw [HR.out]; exact ((HK2.out.drewN _).set 1 _).set 1 _, only_set (only_set (only_drewN HO.out _) 1 _) 1 _⟩
            · have t0' : (x == 0) = false := by simpa using t0
              clear t0
              have HR := Lib.hid (HE2.out.trans (rd_cons_form H9.out h128 (by rw [← HMM.out]; exact Or.inr tm)))
              go_wp2_with fail
              go_quiet (fail)
              go_wp2_with fail
              go_quiet (fail)
              go_wp2_with fail
              go_step3
              refine ⟨rfl, ?_⟩
              go_wp2_with fail
              rw [Exit.noGoto_ret]
              go_ret2
              exact ⟨by rw [HR.out]; rfl, by rw [HR.out]; exact ((HK2.out.drewN _).set 1 _).set 1 _, only_set (only_set (only_drewN HO.out _) 1 _) 1 _⟩
          · by_cases t0 : x = 0
            · have t0' : (x == 0) = true := by simpa using t0
              have T0 := Lib.hid t0
              clear t0
              by_cases ti : 0 < i
              · have HR := Lib.hid (HE2.out.trans (rd_cons_form H9.out h128 (by rw [← HMM.out]; exact Or.inl ⟨T0.out, ti⟩)))
                go_wp2_with fail
                go_quiet (fail)
                go_wp2_with fail
                go_quiet (fail)
                go_wp2_with fail
                go_step3
                refine ⟨rfl, ?_⟩
                go_wp2_with fail
                rw [Exit.noGoto_ret]
                go_ret2
                exact ⟨by rw [HR.out]; rfl, by rw [HR.out]; exact ((HK2.out.drewN _).set 1 _).set 1 _, only_set (only_set (only_drewN HO.out _) 1 _) 1 _⟩
              · have HR := Lib.hid (HE2.out.trans (rd_cons_last H9.out h128 (by rw [← HMM.out]; rintro (⟨_, h⟩ | h); exact ti h; exact tm h)))
                go_wp2_with fail
                go_quiet (fail)
                go_wp2_with fail
                go_quiet (fail)
                go_wp2_with fail
                go_step3
                refine ⟨rfl, ?_⟩
                go_wp2_with fail
                rw [Exit.noGoto_ret]
                go_ret2
                exact ⟨by rw [HR.out, ← HMM.out]; rfl, by rw [HR.out, show ((at_ + (0, ((acc + (x % 128).toNat * 128 ^ i : Nat) : Int), i + 1).2.2 : Nat) : Int) = (at2 : Int) + 1 by rw [HA2.out]; simp only []; omega]; exact (HK2.out.drewN _).set 1 _, only_set (only_drewN HO.out _) 1 _⟩
            · have t0' : (x == 0) = false := by simpa using t0
              have T0 := Lib.hid t0
              clear t0
              have HR := Lib.hid (HE2.out.trans (rd_cons_last H9.out h128 (by rw [← HMM.out]; rintro (⟨h, _⟩ | h); exact T0.out h; exact tm h)))
              go_wp2_with fail
              go_quiet (fail)
              go_wp2_with fail
              go_quiet (fail)
              go_wp2_with fail
              go_step3
              refine ⟨rfl, ?_⟩
              go_wp2_with fail
              rw [Exit.noGoto_ret]
              go_ret2
              exact ⟨by rw [HR.out, ← HMM.out]; rfl, by rw [HR.out, show ((at_ + (0, ((acc + (x % 128).toNat * 128 ^ i : Nat) : Int), i + 1).2.2 : Nat) : Int) = (at2 : Int) + 1 by rw [HA2.out]; simp only []; omega]; exact (HK2.out.drewN _).set 1 _, only_set (only_drewN HO.out _) 1 _⟩
end Go.Proofs.Ytgakmkglejddeaa
