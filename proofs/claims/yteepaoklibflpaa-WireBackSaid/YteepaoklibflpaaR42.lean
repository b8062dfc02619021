/-
  The wire package's Check and Put.
  The reader's memory; how a number is read.
  How many there are; bytes into what has room for them.
-/
import Derived.Test.YteepaoklibflpaaR41
import Derived.Test.YteepaoklibflpaaR26
import Derived.Test.YteepaoklibflpaaR14
import Derived.WalkSpells
import Derived.Deep.LoopGhost
import Derived.ScopeJumps
import Derived.BigQuiet
import Derived.Deep.QuietTactic
import Derived.Test.YteepaoklibflpaaR10
import Derived.Laws.CopyOwn
namespace Go.Proofs.Yteepaoklibflpaa
section
set_option linter.unusedSimpArgs false
set_option linter.unusedVariables false
open Go.RowKit Sha Nte
open Fld (Itm)
section
attribute [local go_sem ↓] execOp_boxNote execOp_loadNote
set_option maxRecDepth 100000 in
set_option maxHeartbeats 1000000 in
theorem wcheck_any (x : Not) (h : NHd) (w : World) (hg : NGood w x h) (hf : Few x) : Calls Try.prog 10 #[.agg (ncells x h).toArray] w fun e w' => e = .returned (.int .i64 (check x)) ∧ Below w.heap.size w w' := by
  obtain ⟨g, w1, r1, hg1, hl1, K1, B1⟩ := box_note w x h
  have l1 := load_note (o := 0) hg.ok.len K1.range
  have HB1 := Lib.hid B1
  have HBD := Lib.hid (wbody_any x h w1 (hg.below B1) hf)
  clear hg1 hl1 K1 B1 hg
  go_enter Try.func10, Try.ntmps10
  go_wp2_with fail
  refine HBD.out.mono ?_
  rintro e w2 ⟨v, rfl, _, hb2⟩
  have HB2 := Lib.hid (HB1.out.trans (hb2.mono HB1.out.size))
  clear hb2 HBD l1 r1
  go_wp2_with fail
  go_ret
  exact ⟨rfl, HB2.out⟩
theorem frm_put {b : List Int} (h : Frm.Rec b) : Frm.put b = (Frm.fr b, 0) := by
  unfold Frm.put
  rw [h.bad]
  simp
set_option maxRecDepth 100000 in
set_option maxHeartbeats 1000000 in
theorem wput_any (F : FrameOK) (x : Not) (h : NHd) (w : World) (hg : NGood w x h) (hf : Few x) : Calls Try.prog 12 #[.agg (ncells x h).toArray] w (FDone8 w (Nte.put x)) := by
  obtain ⟨g, w1, r1, hg1, hl1, K1, B1⟩ := box_note w x h
  have l1 := load_note (o := 0) hg.ok.len K1.range
  have HB1 := Lib.hid B1
  have HBD := Lib.hid (wbody_any x h w1 (hg.below B1) hf)
  have HBY := Lib.hid (inner_bytes hg.ok)
  clear hg1 hl1 K1 B1 hg
  by_cases hc : check x = 0
  · have HP := Lib.hid (Nte.put_ok hc)
    have HR := Lib.hid (inner_rec hc)
    rw [HP.out]
    unfold BDone15 at HBD
    rw [hc, bodyB_ok hc] at HBD
    clear hc HP
    go_enter Try.func12, Try.ntmps12
    go_wp2_with fail
    refine HBD.out.mono ?_
    rintro e w2 ⟨v, rfl, ho, hb2⟩
    obtain ⟨p, c, rfl, q1, q2, q3, _, q5⟩ := own_at ho.row
    have HB2 := Lib.hid (HB1.out.trans (hb2.mono HB1.out.size))
    have HFP := Lib.hid (F.put (inner x) (inner x).length p c w2 rfl ⟨HBY.out, q3, q1, by unfold maxLen at q2; simp only; omega, q5⟩)
    rw [frm_put HR.out] at HFP
    generalize (inner x).length = m at *
    clear hb2 HBD l1 r1 ho q1 q2 q3 q5
    go_wp2_with fail
    refine HFP.out.mono ?_
    rintro e w3 ⟨v3, rfl, ho3, hb3⟩
    have HO3 := Lib.hid ho3
    have HB3 := Lib.hid (HB2.out.trans (hb3.mono HB2.out.size))
    have HS := Lib.hid (show w.heap.size ≤ w2.heap.size from HB2.out.size)
    clear ho3 hb3 HFP
    go_wp2_with fail
    go_ret2
    exact ⟨v3, rfl, ⟨own_weak HO3.out.row HS.out, HO3.out.ints⟩, HB3.out⟩
  · have HP := Lib.hid (Nte.put_no hc)
    rw [HP.out]
    unfold BDone15 at HBD
    rw [bodyB_no hc] at HBD
    have hne : (check x == 0) = false := by rw [beq_eq_false_iff_ne]; exact hc
    have hne2 : (check x != 0) = true := by rw [bne, hne]; rfl
    clear hc HP
    generalize check x = er at *
    go_enter Try.func12, Try.ntmps12
    go_wp2_with fail
    refine HBD.out.mono ?_
    rintro e w2 ⟨v, rfl, ho, hb2⟩
    have HB2 := Lib.hid (HB1.out.trans (hb2.mono HB1.out.size))
    clear hb2 HBD l1 r1 ho
    go_wp2_with fail
    go_ret2
    exact ⟨.slice none 0 0, rfl, Own8.nil _ _ _, HB2.out⟩
end
end
section
set_option linter.unusedSimpArgs false
set_option linter.unusedVariables false
open Go.RowKit Sha
open Fld (Itm)
/-- A goto ahead: what stands behind the label is walked from each goto. -/
theorem wp_scope_ahead {P : Program} {a : Act} {w : World} {Q : Exit → Act → World → Prop} {c rest : Code} (l : Nat) (hf : findLabel c l = some rest)
    (first : c.wp P (Exit.jump l (fun a' w' => rest.wp P (Exit.noGoto Q) a' w') Q) a w) : (Code.scope c).wp P Q a w :=
  wp_scope_jumps l (fun a' w' => rest.wp P (Exit.noGoto Q) a' w') (fun _ _ => 0) hf first fun a' w' h => wp_mono h fun e a₁ w₁ hq => by
    cases e with
    | goto l => exact hq.elim
    | normal => exact hq
    | exit id => exact hq
    | ret => exact hq
    | panic ch => exact hq
    | outgrown => exact hq
/-! ### Only block ga, and what is new, has turned -/
theorem only_refl (w : World) (ga : Nat) : w.grownBy w (some ga) := ⟨rfl, rfl, rfl, Nat.le_refl _, fun _ _ _ => rfl⟩
theorem only_drew {a w : World} {row : Option Nat} (h : a.grownBy w row) : a.grownBy w.drew row := ⟨h.os, h.tape, h.output, h.size, h.block⟩
theorem only_drewN {a w : World} {row : Option Nat} (h : a.grownBy w row) (n : Nat) : a.grownBy (w.drewN n) row := ⟨h.os, h.tape, h.output, h.size, h.block⟩
theorem only_set {a w : World} {ga : Nat} (h : a.grownBy w (some ga)) (i : Nat) (u : Value) : a.grownBy (w.setCell ⟨ga, i, none⟩ u) (some ga) :=
  ⟨h.os, h.tape, h.output, by simpa [World.setCell] using h.size, fun k hk hne => (Below.heap_setCell w _ u k (by rintro rfl; exact hne rfl)).trans (h.block k hk hne)⟩
theorem only_trans {a b c : World} {ga : Nat} (h : a.grownBy b (some ga)) (k : b.grownBy c (some ga)) : a.grownBy c (some ga) :=
  ⟨k.os.trans h.os, k.tape.trans h.tape, k.output.trans h.output, Nat.le_trans h.size k.size, fun i hi hn => (k.block i (Nat.lt_of_lt_of_le hi h.size) hn).trans (h.block i hi hn)⟩
theorem only_below {a b c : World} {ga : Nat} (h : a.grownBy b (some ga)) (k : Below b.heap.size b c) : a.grownBy c (some ga) :=
  ⟨k.os.trans h.os, k.tape.trans h.tape, k.output.trans h.output, Nat.le_trans h.size k.size, fun i hi hn => (k.block i (Nat.lt_of_lt_of_le hi h.size)).trans (h.block i hi hn)⟩
theorem below_only {a b c : World} {ga B : Nat} (h : Below B a b) (k : b.grownBy c (some ga)) (hB : B ≤ ga) (hs : B ≤ b.heap.size) : Below B a c :=
  h.trans ⟨k.os, k.tape, k.output, k.size, fun i hi => k.block i (by omega) (by intro e; have := Option.some.inj e; omega)⟩
theorem others_only {a b : World} {ga : Nat} (h : a.grownBy b (some ga)) (e : TypeId) : Lib.OthersKept e (some ga) a b := fun i o hi hb _ => by
  have hlt : i < a.heap.size := (Array.getElem?_eq_some_iff.1 hi).1
  rw [h.block i hlt hb]; exact hi
theorem rd_cons_more {i acc : Nat} {x : Int} {r : List Int} (h9 : i ≠ 9) (h : 128 ≤ x) : Fld.rd i acc (x :: r) = Fld.rd (i + 1) (acc + (x % 128).toNat * 128 ^ i) r := by
  rw [Fld.rd, if_neg h9, if_pos h]
theorem rd_cons_nine {acc : Nat} {x : Int} {r : List Int} : Fld.rd 9 acc (x :: r) = (10, 0, 0) := by rw [Fld.rd, if_pos rfl]
theorem rd_cons_form {i acc : Nat} {x : Int} {r : List Int} (h9 : i ≠ 9) (h : ¬ 128 ≤ x) (hf : (x = 0 ∧ 0 < i) ∨ 4611686018427387903 < acc + (x % 128).toNat * 128 ^ i) : Fld.rd i acc (x :: r) = (10, 0, 0) := by
  rw [Fld.rd, if_neg h9, if_neg h, if_pos hf]
theorem rd_cons_last {i acc : Nat} {x : Int} {r : List Int} (h9 : i ≠ 9) (h : ¬ 128 ≤ x) (hf : ¬ ((x = 0 ∧ 0 < i) ∨ 4611686018427387903 < acc + (x % 128).toNat * 128 ^ i)) : Fld.rd i acc (x :: r) = (0, ((acc + (x % 128).toNat * 128 ^ i : Nat) : Int), i + 1) := by
  rw [Fld.rd, if_neg h9, if_neg h, if_neg hf]
theorem pow128 (i : Nat) : (2 : Nat) ^ (7 * i) = 128 ^ i := by rw [Nat.pow_mul]
theorem pow128_le (i : Nat) (h : i ≤ 8) : (128 : Nat) ^ i ≤ 72057594037927936 := by
  calc (128 : Nat) ^ i ≤ 128 ^ 8 := Nat.pow_le_pow_right (by omega) h
    _ = 72057594037927936 := by decide
theorem or_step (acc i : Nat) (x : Int) (hi : i ≤ 8) (ha : acc < 128 ^ i) (hx : 0 ≤ x ∧ x ≤ 255) :
    bits BinOp.or IntKind.i64 (acc : Int) (wrap64 (x % 128 * 2 ^ (7 * i))) = ((acc + (x % 128).toNat * 128 ^ i : Nat) : Int) := by
  obtain ⟨y, hy⟩ : ∃ y : Nat, x % 128 = (y : Int) := ⟨(x % 128).toNat, by omega⟩
  have hy1 : y ≤ 127 := by omega
  have hp := pow128_le i hi
  have hmul : y * 128 ^ i ≤ 127 * 72057594037927936 := Nat.mul_le_mul hy1 hp
  rw [hy, Int.toNat_natCast]
  have e1 : (y : Int) * 2 ^ (7 * i) = ((y * 128 ^ i : Nat) : Int) := by
    rw [← pow128]; push_cast; rfl
  rw [e1]
  have e2 : wrap64 ((y * 128 ^ i : Nat) : Int) = ((y * 128 ^ i : Nat) : Int) := by unfold wrap64; omega
  rw [e2]
  show IntKind.i64.wrap ((BitVec.ofInt 64 (acc : Int) ||| BitVec.ofInt 64 ((y * 128 ^ i : Nat) : Int)).toNat : Int) = _
  have h1 : (BitVec.ofInt 64 (acc : Int)).toNat = acc := by rw [BitVec.toNat_ofInt]; omega
  have h2 : (BitVec.ofInt 64 ((y * 128 ^ i : Nat) : Int)).toNat = y <<< (7 * i) := by
    rw [BitVec.toNat_ofInt, Nat.shiftLeft_eq, pow128]; omega
  rw [BitVec.toNat_or, h1, h2, Nat.or_comm, ← Nat.shiftLeft_add_eq_or_of_lt (by rw [pow128]; exact ha), Nat.shiftLeft_eq, pow128, IntWalk.i64_in _ (by omega)]
  omega
theorem or_lt (acc i : Nat) (x : Int) (ha : acc < 128 ^ i) (hx : 0 ≤ x ∧ x ≤ 255) : acc + (x % 128).toNat * 128 ^ i < 128 ^ (i + 1) := by
  obtain ⟨y, hy⟩ : ∃ y : Nat, x % 128 = (y : Int) := ⟨(x % 128).toNat, by omega⟩
  rw [hy, Int.toNat_natCast, Nat.pow_succ, Nat.mul_comm (128 ^ i) 128]
  have hy1 : y ≤ 127 := by omega
  have := Nat.mul_le_mul_right (128 ^ i) hy1
  omega
/-- What a number's reading leaves: the place. -/
def NDone (ga : Nat) (bv v : Value) (r : Int × Int × Nat) (at_ : Nat) (w : World) (e : Ending) (w' : World) : Prop :=
  e = .returned (.tuple #[.int .i64 r.2.1, .int .i64 r.1]) ∧ Blk w' ga [bv, .int .i64 ((at_ + r.2.2 : Nat) : Int), v] 77 ∧ w.grownBy w' (some ga)
set_option maxRecDepth 100000 in
set_option maxHeartbeats 2000000 in
theorem rnum_any (w0 : World) (ga : Nat) (bs : List Int) (p : Option Addr) (n c : Nat) (v : Value) (at_ : Nat) (w : World) (hn : bs.length = n) (hb : ∀ x ∈ bs, 0 ≤ x ∧ x ≤ 255) (hA : At w0 p (bs.map v8)) (hB : Below w0.heap.size w0 w) (hga : w0.heap.size ≤ ga) (hc : n ≤ c) (hm : c ≤ 9223372036854775807) (hat : at_ ≤ n)
    (hK : Blk w ga [.slice p n c, .int .i64 at_, v] 77) :
    Calls Try.prog 51 #[.pointer (some ⟨ga, 0, none⟩)] w (NDone ga (.slice p n c) v (Fld.rd 0 0 (bs.drop at_)) at_ w) := by
  have HN := Lib.hid hn
  have HBD := Lib.hid hb
  have HA := Lib.hid hA
  have HB := Lib.hid hB
  have HK := Lib.hid hK
  have e1 : w.cell? ⟨ga, 1, none⟩ = some (.int .i64 at_) := hK.cell 1
  clear hn hb hA hB hK
  go_enter Try.func51, Try.ntmps51
  go_wp2_with fail
  refine wp_scope_ahead 0 rfl ?_
  go_wp2_with fail
  go_loopg [2, 3, 5] 10 (fun gh n0 e0 i0 wr => ∃ (i acc : Nat), i ≤ 9 ∧ gh = 10 - i ∧ n0 = .int .i64 acc ∧ e0 = .int .i64 0 ∧ i0 = .int .i64 i ∧ acc < 128 ^ i ∧ at_ + i ≤ n ∧ Hid (Fld.rd 0 0 (bs.drop at_) = Fld.rd i acc (bs.drop (at_ + i))) ∧ Hid (Blk wr ga [.slice p n c, .int .i64 ((at_ + i : Nat) : Int), v] 77) ∧ Hid (w.grownBy wr (some ga)))
  case atStart => exact ⟨0, 0, by omega, rfl, rfl, rfl, rfl, by simp, by omega, rfl, HK, only_refl _ _⟩
  case round =>
    obtain ⟨i, acc, hi, rfl, rfl, rfl, rfl, hacc, hai, HE, HK2, HO⟩ := hrel
    have c0 : wr.cell? ⟨ga, 0, none⟩ = some (.slice p n c) := HK2.out.cell 0
    have c1 : wr.cell? ⟨ga, 1, none⟩ = some (.int .i64 ((at_ + i : Nat) : Int)) := HK2.out.cell 1
    have f1 : wr.frozen? ⟨ga, 1, none⟩ = false := HK2.out.free 1
    have hacc2 := Lib.hid hacc
    clear hacc
    obtain ⟨at2, ha2⟩ : ∃ a, a = at_ + i := ⟨_, rfl⟩
    rw [← ha2] at c1 hai
    have HA2 := Lib.hid ha2
    clear ha2
    by_cases hend : at2 = n
    · have hend' : ((at2 : Int) == (n : Int)) = true := by rw [beq_iff_eq]; omega
      have HR := Lib.hid (show Fld.rd 0 0 (bs.drop at_) = (4, 0, i) by rw [HE.out, ← HA2.out, hend, ← HN.out, List.drop_length]; rfl)
      clear hend
      go_wp2_with fail
      go_quiet (fail)
      go_wp2_with fail
      go_step3
      refine ⟨rfl, ?_⟩
      go_wp2_with fail
      rw [Exit.noGoto_ret]
      go_ret2
      exact ⟨by rw [HR.out]; rfl, by rw [HR.out]; exact HK2.out.drewN nq, only_drewN HO.out nq⟩
    · have hend' : ((at2 : Int) == (n : Int)) = false := by rw [beq_eq_false_iff_ne]; omega
      have hlt : at2 < n := by omega
      have hlb : at2 < bs.length := by rw [HN.out]; exact hlt
      obtain ⟨x, hx⟩ : ∃ x, x = bs[at2] := ⟨_, rfl⟩
      have HD := Lib.hid (show bs.drop at2 = x :: bs.drop (at2 + 1) by rw [hx]; exact List.drop_eq_getElem_cons hlb)
      have hx0 : 0 ≤ x ∧ x ≤ 255 := HBD.out x (by rw [hx]; exact List.getElem_mem hlb)
      obtain ⟨b, off, rfl, hcell⟩ := HA.out.addr (by rw [List.length_map]; omega)
      have hx1 : w0.cell? ⟨b, off + at2, none⟩ = some (v8 x) := hcell _ _ (by rw [List.getElem?_map, List.getElem?_eq_getElem hlb, hx]; rfl)
      have HBW := Lib.hid (below_only HB.out HO.out hga HB.out.size)
      have x1 : wr.cell? ⟨b, off + at2, none⟩ = some (v8 x) := (HBW.out.cell (p := ⟨b, off + at2, none⟩) (World.block_lt_of_cell? w0 _ hx1)).trans hx1
      have HE2 := Lib.hid (show Fld.rd 0 0 (bs.drop at_) = Fld.rd i acc (x :: bs.drop (at2 + 1)) by rw [HE.out, ← HA2.out, HD.out])
      clear hend hx hcell hx1 hlb HE
      by_cases h9 : i = 9
      · subst h9
        have HR := Lib.hid (HE2.out.trans rd_cons_nine)
        rw [show ((9 : Nat) : Int) = (9 : Int) from rfl]
        go_wp2_with fail
        go_quiet (fail)
        go_wp2_with fail
        go_step3
        refine ⟨rfl, ?_⟩
        go_wp2_with fail
        rw [Exit.noGoto_ret]
        go_ret2
        exact ⟨by rw [HR.out]; rfl, by rw [HR.out]; exact (HK2.out.drewN nq).set 1 _, only_set (only_drewN HO.out nq) 1 _⟩
      · have h9' : ((i : Int) == 9) = false := by rw [beq_eq_false_iff_ne]; omega
        have hi8 : i ≤ 8 := by omega
        have hor := or_step acc i x hi8 hacc2.out hx0
        have hml := or_lt acc i x hacc2.out hx0
        obtain ⟨m, hmm⟩ : ∃ m, m = acc + (x % 128).toNat * 128 ^ i := ⟨_, rfl⟩
        rw [← hmm] at hor hml
        have hm63 : m ≤ 9223372036854775807 := by
          have := Nat.pow_le_pow_right (n := 128) (by omega) (show i + 1 ≤ 9 by omega)
          have h9 : (128 : Nat) ^ 9 = 9223372036854775808 := by decide
          omega
        have HML := Lib.hid hml
        have HMM := Lib.hid hmm
        have H9 := Lib.hid h9
        clear h9 hml hmm
        by_cases h128 : 128 ≤ x
        · have HR := Lib.hid (HE2.out.trans (rd_cons_more H9.out h128))
          go_wp2_with fail
          go_quiet (fail)
          go_wp2_with fail
          go_quiet (fail)
          go_wp2_with fail
          go_roundg (10 - (i + 1))
          case measure => omega
          case rel =>
            refine ⟨i + 1, m, by omega, rfl, rfl, rfl, by go_num, HML.out, by have := HA2.out; omega, Lib.hid (by rw [HR.out, ← HMM.out, HA2.out, Nat.add_assoc]), Lib.hid ?_, Lib.hid (only_set (only_drewN HO.out _) 1 _)⟩
            rw [show ((at_ + (i + 1) : Nat) : Int) = (at2 : Int) + 1 by rw [HA2.out]; omega]
            exact (HK2.out.drewN _).set 1 _
        · have htr : (Blk wr ga [.slice (some ⟨b, off, none⟩) n c, .int .i64 at2, v] 77) := by have := HK2.out; rwa [← HA2.out] at this
          have HT := Lib.hid htr
          clear htr
          by_cases tm : 4611686018427387903 < m
          · by_cases t0 : x = 0
            · have t0' : (x == 0) = true := by simpa using t0
              clear t0
              by_cases ti : 0 < i
              · have HR := Lib.hid (HE2.out.trans (rd_cons_form H9.out h128 (by rw [← HMM.out]; exact Or.inr tm)))
                go_wp2_with fail
                go_quiet (fail)
                go_wp2_with fail
                go_quiet (fail)
                go_wp2_with fail
                go_step3
                refine ⟨rfl, ?_⟩
                go_wp2_with fail
                rw [Exit.noGoto_ret]
                go_ret2
                exact ⟨by rw [HR.out]; rfl, by rw [HR.out]; exact ((HK2.out.drewN _).set 1 _).set 1 _, only_set (only_set (only_drewN HO.out _) 1 _) 1 _⟩
              · have HR := Lib.hid (HE2.out.trans (rd_cons_form H9.out h128 (by rw [← HMM.out]; exact Or.inr tm)))
                go_wp2_with fail
                go_quiet (fail)
                go_wp2_with fail
                go_quiet (fail)
                go_wp2_with fail
                go_step3
                refine ⟨rfl, ?_⟩
                go_wp2_with fail
                rw [Exit.noGoto_ret]
                go_ret2
                exact ⟨by rw [HR.out]; rfl, by rw [HR.out]; exact ((HK2.out.drewN _).set 1 _).set 1 _, only_set (only_set (only_drewN HO.out _) 1 _) 1 _⟩
            · have t0' : (x == 0) = false := by simpa using t0
              clear t0
              have HR := Lib.hid (HE2.out.trans (rd_cons_form H9.out h128 (by rw [← HMM.out]; exact Or.inr tm)))
              go_wp2_with fail
              go_quiet (fail)
              go_wp2_with fail
              go_quiet (fail)
              go_wp2_with fail
              go_step3
              refine ⟨rfl, ?_⟩
              go_wp2_with fail
              rw [Exit.noGoto_ret]
              go_ret2
              exact ⟨by rw [HR.out]; rfl, by rw [HR.out]; exact ((HK2.out.drewN _).set 1 _).set 1 _, only_set (only_set (only_drewN HO.out _) 1 _) 1 _⟩
          · by_cases t0 : x = 0
            · have t0' : (x == 0) = true := by simpa using t0
              have T0 := Lib.hid t0
              clear t0
              by_cases ti : 0 < i
              · have HR := Lib.hid (HE2.out.trans (rd_cons_form H9.out h128 (by rw [← HMM.out]; exact Or.inl ⟨T0.out, ti⟩)))
                go_wp2_with fail
                go_quiet (fail)
                go_wp2_with fail
                go_quiet (fail)
                go_wp2_with fail
                go_step3
                refine ⟨rfl, ?_⟩
                go_wp2_with fail
                rw [Exit.noGoto_ret]
                go_ret2
                exact ⟨by rw [HR.out]; rfl, by rw [HR.out]; exact ((HK2.out.drewN _).set 1 _).set 1 _, only_set (only_set (only_drewN HO.out _) 1 _) 1 _⟩
              · have HR := Lib.hid (HE2.out.trans (rd_cons_last H9.out h128 (by rw [← HMM.out]; rintro (⟨_, h⟩ | h); exact ti h; exact tm h)))
                go_wp2_with fail
                go_quiet (fail)
                go_wp2_with fail
                go_quiet (fail)
                go_wp2_with fail
                go_step3
                refine ⟨rfl, ?_⟩
                go_wp2_with fail
                rw [Exit.noGoto_ret]
                go_ret2
                exact ⟨by rw [HR.out, ← HMM.out]; rfl, by rw [HR.out, show ((at_ + (0, ((acc + (x % 128).toNat * 128 ^ i : Nat) : Int), i + 1).2.2 : Nat) : Int) = (at2 : Int) + 1 by rw [HA2.out]; simp only []; omega]; exact (HK2.out.drewN _).set 1 _, only_set (only_drewN HO.out _) 1 _⟩
            · have t0' : (x == 0) = false := by simpa using t0
              have T0 := Lib.hid t0
              clear t0
              have HR := Lib.hid (HE2.out.trans (rd_cons_last H9.out h128 (by rw [← HMM.out]; rintro (⟨h, _⟩ | h); exact T0.out h; exact tm h)))
              go_wp2_with fail
              go_quiet (fail)
              go_wp2_with fail
              go_quiet (fail)
              go_wp2_with fail
              go_step3
              refine ⟨rfl, ?_⟩
              go_wp2_with fail
              rw [Exit.noGoto_ret]
              go_ret2
              exact ⟨by rw [HR.out, ← HMM.out]; rfl, by rw [HR.out, show ((at_ + (0, ((acc + (x % 128).toNat * 128 ^ i : Nat) : Int), i + 1).2.2 : Nat) : Int) = (at2 : Int) + 1 by rw [HA2.out]; simp only []; omega]; exact (HK2.out.drewN _).set 1 _, only_set (only_drewN HO.out _) 1 _⟩
end
section
set_option linter.unusedSimpArgs false
set_option linter.unusedVariables false
open Go.RowKit Sha
open Fld (Itm)
/-- What a reader reads: bytes that were there from the first. -/
structure RIn (w0 : World) (ga : Nat) (bs : List Int) (p : Option Addr) (n c : Nat) : Prop where
  len : bs.length = n
  bd : ∀ x ∈ bs, 0 ≤ x ∧ x ≤ 255
  at_ : At w0 p (bs.map v8)
  base : w0.heap.size ≤ ga
  le : n ≤ c
  max : c ≤ 9223372036854775807
  nil : p = none → c = 0
theorem rd_ten (bs : List Int) : ∀ i acc, (Fld.rd i acc bs).1 = 10 → (Fld.rd i acc bs).2.2 = 0 := by
  induction bs with
  | nil => intro i acc h; simp [Fld.rd] at h
  | cons x r ih =>
    intro i acc
    unfold Fld.rd
    split
    · simp
    · split
      · exact ih _ _
      · split <;> simp
theorem rd_four (bs : List Int) : ∀ i acc, (Fld.rd i acc bs).1 = 4 → (Fld.rd i acc bs).2.2 = i + bs.length := by
  induction bs with
  | nil => intro i acc h; simp [Fld.rd]
  | cons x r ih =>
    intro i acc
    unfold Fld.rd
    split
    · simp
    · split
      · intro h; rw [ih _ _ h]; simp; omega
      · split <;> simp
theorem rdTop_gt {l : List Int} (h : 4000 < (Fld.rd 0 0 l).2.1) : Fld.rdTop l = (3, 0, 0) := by unfold Fld.rdTop; rw [if_pos h]
theorem rdTop_le {l : List Int} (h : ¬ 4000 < (Fld.rd 0 0 l).2.1) : Fld.rdTop l = Fld.rd 0 0 l := by unfold Fld.rdTop; rw [if_neg h]
set_option maxRecDepth 100000 in
set_option maxHeartbeats 2000000 in
theorem count_any (w0 : World) (ga : Nat) (bs : List Int) (p : Option Addr) (n c : Nat) (hin : RIn w0 ga bs p n c) (v : Value) (at_ : Nat) (w : World) (hB : Below w0.heap.size w0 w) (hat : at_ ≤ n) (hK : Blk w ga [.slice p n c, .int .i64 at_, v] 77) :
    Calls Try.prog 50 #[.pointer (some ⟨ga, 0, none⟩), .int .i64 4000] w (NDone ga (.slice p n c) v (Fld.rdTop (bs.drop at_)) at_ w) := by
  have HI := Lib.hid hin
  have HB := Lib.hid hB
  have HK := Lib.hid hK
  have e1 : w.cell? ⟨ga, 1, none⟩ = some (.int .i64 at_) := hK.cell 1
  obtain ⟨r, hr⟩ : ∃ r, r = Fld.rd 0 0 (bs.drop at_) := ⟨_, rfl⟩
  have HR := Lib.hid hr
  have hx := HI.out.max
  clear hin hB hK
  by_cases h4 : 4000 < r.2.1
  · have HT := Lib.hid (rdTop_gt (by rw [← hr]; exact h4))
    clear hr
    go_enter Try.func50, Try.ntmps50
    go_wp2_with (go_at_call 51; refine (rnum_any w0 ga bs p n c v at_ w HI.out.len HI.out.bd HI.out.at_ HB.out HI.out.base HI.out.le HI.out.max hat HK.out).mono ?_; rw [← HR.out]; rintro e w1 ⟨rfl, hk1, ho1⟩; have c1 : w1.cell? ⟨ga, 1, none⟩ = some (.int .i64 ((at_ + r.2.2 : Nat) : Int)) := hk1.cell 1; have f1 : w1.frozen? ⟨ga, 1, none⟩ = false := hk1.free 1; have HK1 := Lib.hid hk1; have HO1 := Lib.hid ho1; clear hk1 ho1)
    go_ret2
    exact ⟨by rw [HT.out]; rfl, by rw [HT.out]; exact HK1.out.set 1 _, only_set HO1.out 1 _⟩
  · have HT := Lib.hid ((rdTop_le (by rw [← hr]; exact h4)).trans hr.symm)
    clear hr
    go_enter Try.func50, Try.ntmps50
    go_wp2_with (go_at_call 51; refine (rnum_any w0 ga bs p n c v at_ w HI.out.len HI.out.bd HI.out.at_ HB.out HI.out.base HI.out.le HI.out.max hat HK.out).mono ?_; rw [← HR.out]; rintro e w1 ⟨rfl, hk1, ho1⟩; have HK1 := Lib.hid hk1; have HO1 := Lib.hid ho1; clear hk1 ho1)
    go_ret2
    exact ⟨by rw [HT.out]; rfl, by rw [HT.out]; exact HK1.out, HO1.out⟩
/-- Where bytes are filled in: block gr, new behind all else, its cells 'cur', from off on k of them. -/
def FlsDone (ga gr off k : Nat) (bv v : Value) (cur : List Value) (t : TypeId) (bs : List Int) (at_ n : Nat) (w : World) (e : Ending) (w' : World) : Prop :=
  if n - at_ < k then e = .returned (.int .i64 4) ∧ Blk w' ga [bv, .int .i64 n, v] 77 ∧ Blk w' gr cur t ∧ w.grownBy w' (some ga)
  else e = .returned (.int .i64 0) ∧ Blk w' ga [bv, .int .i64 ((at_ + k : Nat) : Int), v] 77 ∧ Blk w' gr (splice cur off (((bs.drop at_).take k).map v8)) t ∧ ∃ w1, Below gr w w1 ∧ w1.grownBy w' (some ga)
set_option maxRecDepth 100000 in
set_option maxHeartbeats 2000000 in
theorem fill_no (w0 : World) (ga gr off k cr : Nat) (bs : List Int) (p : Option Addr) (n c : Nat) (hin : RIn w0 ga bs p n c) (v : Value) (at_ : Nat) (w : World) (hB : Below w0.heap.size w0 w) (hat : at_ ≤ n) (hK : Blk w ga [.slice p n c, .int .i64 at_, v] 77)
    (cur : List Value) (t : TypeId) (hG : Blk w gr cur t) (hlt : ga < gr) (hk : n - at_ < k) (hkm : k ≤ 4000) :
    Calls Try.prog 49 #[.pointer (some ⟨ga, 0, none⟩), .slice (some ⟨gr, off, none⟩) k cr] w (FlsDone ga gr off k (.slice p n c) v cur t bs at_ n w) := by
  have HI := Lib.hid hin
  have HK := Lib.hid hK
  have HG := Lib.hid hG
  have e0 : w.cell? ⟨ga, 0, none⟩ = some (.slice p n c) := hK.cell 0
  have e1 : w.cell? ⟨ga, 1, none⟩ = some (.int .i64 at_) := hK.cell 1
  have f1 : w.frozen? ⟨ga, 1, none⟩ = false := hK.free 1
  have hx := HI.out.max
  have hle := HI.out.le
  have d1 : IntKind.i64.wrap ((n : Int) - (at_ : Int)) = (n : Int) - (at_ : Int) := IntWalk.i64_in _ (by omega)
  have d2 : (n : Int) - (at_ : Int) < (k : Int) := by omega
  clear hin hK hG hB
  go_enter Try.func49, Try.ntmps49
  go_wp2_with fail
  go_quiet (fail)
  clear d1
  go_wp2_with fail
  go_ret
  unfold FlsDone
  rw [if_pos hk]
  have hne : gr ≠ ga := by omega
  exact ⟨rfl, (HK.out.drewN _).set 1 _, (HG.out.drewN _).setOther _ _ hne, only_set (only_drewN (only_refl w ga) _) 1 _⟩
theorem sl_cut (p : Option Addr) (n c at_ : Nat) (h : at_ ≤ n) : ∃ sp, ∀ w, (Instr.sliceAt 28 (.slice p n c) (some (.int .i64 (at_ : Int))) none none).run Try.prog w = .ok (.slice sp (n - at_) (c - at_)) w ∧ sp = (if c = at_ then p else p.map (·.add at_)) := by
  refine ⟨_, fun w => ⟨?_, rfl⟩⟩
  have := run_cut_l (P := Try.prog) 28 5 p n c Try.underlying28 kslice1 .i64 (at_ : Int) (by omega) (by omega) w
  rw [Int.toNat_natCast] at this
  rw [this]; rfl
/-- Where the bytes to be copied lie. -/
theorem src_at {w0 w : World} {bs : List Int} {p sp : Option Addr} {n c at_ k : Nat} (hA : At w0 p (bs.map v8)) (hB : Below w0.heap.size w0 w) (hl : bs.length = n) (hc : n ≤ c) (hsp : sp = (if c = at_ then p else p.map (·.add at_))) :
    0 < (((bs.drop at_).take k).map v8).length → ∃ ad, sp = some ad ∧ ∀ j u, (((bs.drop at_).take k).map v8)[j]? = some u → w.cell? (ad.add j) = some u := by
  intro h0
  have h1 := (hA.below hB).sub at_ n c (by rw [List.length_map]; omega)
  rw [← hsp] at h1
  have e : ((bs.map v8).take n).drop at_ = (bs.drop at_).map v8 := by
    rw [List.take_of_length_le (by rw [List.length_map]; omega), List.map_drop]
  rw [e] at h1
  obtain ⟨b, off, hs, hcell⟩ := h1.addr (by simp at h0 ⊢; omega)
  refine ⟨_, hs, fun j u hj => ?_⟩
  rw [Addr.add_mid]
  refine hcell j u ?_
  rw [List.map_take, List.getElem?_take] at hj
  split at hj
  · exact hj
  · cases hj
set_option maxRecDepth 100000 in
set_option maxHeartbeats 2000000 in
theorem fill_yes (w0 : World) (ga gr off k cr : Nat) (bs : List Int) (p : Option Addr) (n c : Nat) (hin : RIn w0 ga bs p n c) (v : Value) (at_ : Nat) (w : World) (hB : Below w0.heap.size w0 w) (hat : at_ ≤ n) (hK : Blk w ga [.slice p n c, .int .i64 at_, v] 77)
    (cur : List Value) (t : TypeId) (hG : Blk w gr cur t) (hlt : ga < gr) (hk : ¬ n - at_ < k) (hkm : k ≤ 4000) (hfit : off + k ≤ cur.length) :
    Calls Try.prog 49 #[.pointer (some ⟨ga, 0, none⟩), .slice (some ⟨gr, off, none⟩) k cr] w (FlsDone ga gr off k (.slice p n c) v cur t bs at_ n w) := by
  have HI := Lib.hid hin
  have HK := Lib.hid hK
  have HG := Lib.hid hG
  have e0 : w.cell? ⟨ga, 0, none⟩ = some (.slice p n c) := hK.cell 0
  have e1 : w.cell? ⟨ga, 1, none⟩ = some (.int .i64 at_) := hK.cell 1
  have f1 : w.frozen? ⟨ga, 1, none⟩ = false := hK.free 1
  have hx := HI.out.max
  have hle := HI.out.le
  have d1 : IntKind.i64.wrap ((n : Int) - (at_ : Int)) = (n : Int) - (at_ : Int) := IntWalk.i64_in _ (by omega)
  have d2 : decide ((n : Int) - (at_ : Int) < (k : Int)) = false := by simp; omega
  obtain ⟨sp, hsp⟩ := sl_cut p n c at_ hat
  have hcut := fun w => (hsp w).1
  obtain ⟨cs, hcs⟩ : ∃ cs, cs = ((bs.drop at_).take k).map v8 := ⟨_, rfl⟩
  have hcl : cs.length = k := by rw [hcs]; simp [HI.out.len]; omega
  have HS := Lib.hid (fun (w' : World) (hb : Below w0.heap.size w0 w') => src_at (k := k) HI.out.at_ hb HI.out.len HI.out.le (hsp w').2)
  have HB := Lib.hid hB
  have HC := Lib.hid hcs
  have HF := Lib.hid hfit
  have H1 := Lib.hid (show ∀ u ∈ cs, u.oneCell' = true by rw [hcs]; exact kone8 _)
  clear hin hK hG hB hsp hcs hfit
  go_enter Try.func49, Try.ntmps49
  go_wp2_with fail
  go_quiet (fail)
  clear d1 d2
  go_wp2_with fail
  have q0 : (w.drewN nq).cell? ⟨ga, 0, none⟩ = some (.slice p n c) := e0
  have q1 : (w.drewN nq).cell? ⟨ga, 1, none⟩ = some (.int .i64 at_) := e1
  have q2 : (w.drewN nq).frozen? ⟨ga, 1, none⟩ = false := f1
  have HKq := Lib.hid (HK.out.drewN nq)
  have HGq := Lib.hid (HG.out.drewN nq)
  have HBq := Lib.hid (below_drewN HB.out nq)
  have HWq := Lib.hid (below_drewN (Below.refl gr w) nq)
  clear e0 e1 f1 HK HG HB
  generalize w.drewN nq = wq at *
  have hks : Nat.min (n - at_) k = k := Nat.min_eq_right (by omega)
  have HKS := Lib.hid hks
  clear hks
  go_region_law ((refine step_copy_splice (by rfl) (.tmp 30) (.tmp 39) 28 28 (by rfl) 5 Try.underlying28 kslice1 (some ⟨gr, off, none⟩) sp k cr (n - at_) (c - at_) (by rfl) (by rfl) gr off cur t HGq.out.drew cs (by rw [HKS.out]; exact hcl) (by intro h0; refine ⟨rfl, ?_⟩; rw [HC.out] at h0 ⊢; exact HS.out wq.drew HBq.out.drew h0) (by rw [hcl]; exact HF.out) H1.out gr wq ((Below.refl gr wq).drew) (Nat.le_refl _) ?_; intro w4 hg4 hb4; have r1 : w4.cell? ⟨ga, 1, none⟩ = some (.int .i64 at_) := (hb4.cell hlt).trans q1; have r2 : w4.frozen? ⟨ga, 1, none⟩ = false := (hb4.frozen hlt).trans q2; have HB4 := Lib.hid hb4; have HG4 := hg4; clear hb4 hg4))
  all_goals
    go_wp2_with fail
    go_ret
    unfold FlsDone
    rw [if_neg hk]
    have hne : gr ≠ ga := by omega
    have hk4 : Blk w4 ga [.slice p n c, .int .i64 at_, v] 77 := HKq.out.below HB4.out hlt
    have hg5 : Blk w4 gr (splice cur off (((bs.drop at_).take k).map v8)) t := by rw [← HC.out]; exact HG4.out
    exact ⟨rfl, by rw [show ((at_ + k : Nat) : Int) = IntKind.i64.wrap ((at_ : Int) + (k : Int)) by rw [IntWalk.i64_in _ (by omega)]; omega]; exact hk4.set 1 _, hg5.setOther _ _ hne, w4, HWq.out.trans HB4.out, only_set (only_refl w4 ga) 1 _⟩
theorem fill_any (w0 : World) (ga gr off k cr : Nat) (bs : List Int) (p : Option Addr) (n c : Nat) (hin : RIn w0 ga bs p n c) (v : Value) (at_ : Nat) (w : World) (hB : Below w0.heap.size w0 w) (hat : at_ ≤ n) (hK : Blk w ga [.slice p n c, .int .i64 at_, v] 77)
    (cur : List Value) (t : TypeId) (hG : Blk w gr cur t) (hlt : ga < gr) (hkm : k ≤ 4000) (hfit : off + k ≤ cur.length) :
    Calls Try.prog 49 #[.pointer (some ⟨ga, 0, none⟩), .slice (some ⟨gr, off, none⟩) k cr] w (FlsDone ga gr off k (.slice p n c) v cur t bs at_ n w) := by
  by_cases hk : n - at_ < k
  · exact fill_no w0 ga gr off k cr bs p n c hin v at_ w hB hat hK cur t hG hlt hk hkm
  · exact fill_yes w0 ga gr off k cr bs p n c hin v at_ w hB hat hK cur t hG hlt hk hkm hfit
end
end Go.Proofs.Yteepaoklibflpaa
