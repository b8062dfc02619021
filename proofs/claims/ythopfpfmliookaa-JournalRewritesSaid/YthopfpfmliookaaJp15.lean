/-
  The reference of frames: four, number, Size, Put, Join.
  The reference of frames: stands, Split.
  The kit's OverBytes, on a slice of the call's own.
  The law package of frames: what the program's frames are asked to do; one, splits, awake.
  The kit's marks, LentBytes and KeptBytes.
  The law package of frames: FramePuts, FrameSplits.
  The law package of frames: FramePuts.
  The law package of frames: FrameKnown.
  The kit's Pick.
  The law package of frames: FrameBack, FrameTorn.
  Bytes of the call's own as a block: what lies at its front, written over at one place; bytes turned by another.
  The law package of frames: FrameSpoilt.
-/
import Derived.Test.YthopfpfmliookaaJp3
import Derived.Test.YthopfpfmliookaaJp7
import Derived.Test.YthopfpfmliookaaJp14
import Derived.WalkSpells
import Derived.IntWalk
import Derived.WalkLawsBesides
import Derived.Deep.QuietTactic
import Derived.BigQuiet
import Derived.Test.YthopfpfmliookaaJp6
import Derived.Test.YthopfpfmliookaaJp8
import Derived.Lib.SlBytesConst
import Derived.Laws.BytesArg
import Derived.OwnWalk
import Derived.Test.YthopfpfmliookaaRows
import Derived.WalkKit
import Derived.Lib.Hide
import Derived.Test.YthopfpfmliookaaJp1
namespace Go.Proofs.Ythopfpfmliookaa
section
set_option linter.unusedSimpArgs false
set_option linter.unusedVariables false
open Go.RowKit Sha
theorem own_full (w : World) (cs : Array Value) (n : Nat) (e : TypeId) (hm : n ≤ maxLen) (hs : cs.size = n) : (w.alloc (.cells cs e)).ownsRow w.heap.size e 1 (.slice (some ⟨w.heap.size, 0, none⟩) n n) n cs.toList :=
  ⟨by simp [hs], .inr ⟨w.heap.size, n, cs, rfl, Nat.le_refl _, heap_alloc_new w _, Nat.le_refl _, hm, by simp [hs], by rw [Nat.mul_one, List.take_of_length_le (by simp [hs])]⟩⟩
theorem own_belowS {w w' : World} {B n size : Nat} {e : TypeId} {v : Value} {xs : List Value} (h : w.ownsRow B e size v n xs) (hb : Below w.heap.size w w') : w'.ownsRow B e size v n xs := by
  refine ⟨h.1, ?_⟩
  rcases h.2 with h' | ⟨g, cap, cur, hv, hg, hh, h4⟩
  · exact Or.inl h'
  · exact Or.inr ⟨g, cap, cur, hv, hg, by rw [hb.block g (h.lt g (by rw [hv]; rfl)).2]; exact hh, h4⟩
theorem four_heads {zs : List Int} (h : 4 ≤ zs.length) : ∃ a b c d rest, zs = a :: b :: c :: d :: rest := by
  rcases zs with _ | ⟨a, _ | ⟨b, _ | ⟨c, _ | ⟨d, r⟩⟩⟩⟩
  · simp at h
  · simp at h
  · simp at h
  · simp at h
  · exact ⟨a, b, c, d, r, rfl⟩
/-- How long a record's frame is. -/
def fsize (n : Int) : Int := if n < 1 ∨ 4000 < n then 0 else 8 + n
/-- What Put and Join leave: bytes of the call's own, and an error. -/
def FDone (w0 : World) (r : List Int × Int) (e : Ending) (w : World) : Prop :=
  ∃ v, e = .returned (.tuple #[v, .int .i64 r.2]) ∧ w.ownsRow w0.heap.size 5 1 v r.1.length (r.1.map v8) ∧ Below w0.heap.size w0 w
theorem fput_no {b : List Int} (h : Frm.bad b ≠ 0) : Frm.put b = ([], Frm.bad b) := by unfold Frm.put; rw [if_neg h]
theorem fput_yes {b : List Int} (h : Frm.bad b = 0) : Frm.put b = (Frm.fr b, 0) := by unfold Frm.put; rw [if_pos h]
theorem fbad_nil {b : List Int} (h : b.length = 0) : Frm.bad b = 2 := by unfold Frm.bad; rw [if_pos h]
theorem fbad_long {b : List Int} (h : 4000 < b.length) : Frm.bad b = 3 := by unfold Frm.bad; rw [if_neg (by omega), if_pos h]
theorem fbad_ok {b : List Int} (h1 : b.length ≠ 0) (h2 : b.length ≤ 4000) : Frm.bad b = 0 := by unfold Frm.bad; rw [if_neg h1, if_neg (by omega)]
theorem fjoin_bad {l : List (List Int)} {k : Nat} (hk : k < l.length) (h : Frm.joinE (l.take k) = 0) (hb : Frm.bad l[k] ≠ 0) : Frm.join l = ([], Frm.bad l[k]) := by
  have e : Frm.joinE l = Frm.bad l[k] := by
    conv => lhs; rw [← List.take_append_drop k l, List.drop_eq_getElem_cons hk]
    exact Frm.joinE_prefix _ _ _ h hb
  unfold Frm.join
  rw [e, if_neg hb]
theorem fjoin_next {l : List (List Int)} {k : Nat} (hk : k < l.length) (h : Frm.joinE (l.take k) = 0) (hb : Frm.bad l[k] = 0) : Frm.joinE (l.take (k + 1)) = 0 ∧ Frm.frs (l.take (k + 1)) = Frm.frs (l.take k) ++ Frm.fr l[k] := by
  rw [List.take_succ_eq_append_getElem hk]
  refine ⟨by rw [Frm.joinE_append _ _ h]; exact hb, ?_⟩
  rw [Frm.frs_append, Frm.frs_cons, Frm.frs_nil, List.append_nil]
theorem fjoin_all {l : List (List Int)} (h : Frm.joinE l = 0) : Frm.join l = (Frm.frs l, 0) := by unfold Frm.join; rw [if_pos h]
end
section
set_option linter.unusedSimpArgs false
set_option linter.unusedVariables false
open Go.RowKit Sha
theorem cut_at {w : World} {p : Option Addr} {zs : List Int} (l h : Nat) (hA : At w p (((zs.map v8).take h).drop l)) : At w p (((zs.take h).drop l).map v8) := by
  rwa [List.map_drop, List.map_take]
theorem Crc_u32 (zs : List Int) : v32 (Crc.sum zs) = .int .u32 (Frm.sumN zs : Nat) := rfl
/-- Bytes that are only read. -/
structure GoodB (w : World) (y : SHdr) : Prop where
  bytes : ∀ n ∈ y.1, 0 ≤ n ∧ n ≤ 255
  at_ : At w y.2.1 (y.1.map v8)
  le : y.1.length ≤ y.2.2
  max : y.2.2 ≤ 9223372036854775807
/-- What stands tells: a record of the bytes, or none. -/
def StDone (w0 w : World) (x : List Int) (e : Ending) (w' : World) : Prop :=
  ∃ q c, e = .returned (.slice q x.length c) ∧ GoodS w0 (x, q, c) ∧ ∃ m, w' = w.drewN m
theorem good_none (w : World) : GoodS w ([], none, 0) := ⟨by simp, At.nil _ _, by simp, by simp, fun _ => rfl⟩
theorem stands_lt8 {zs : List Int} (h : zs.length < 8) : Frm.stands zs = [] := by unfold Frm.stands; rw [if_pos h]
theorem stands_out {zs : List Int} (h8 : ¬ zs.length < 8) {k : Nat} (hk : k = Crc.leN (zs.take 4)) (h : k < 1 ∨ 4000 < k ∨ zs.length < 8 + k) : Frm.stands zs = [] := by
  subst hk; unfold Frm.stands; rw [if_neg h8, if_pos h]
theorem stands_in {zs : List Int} (h8 : ¬ zs.length < 8) {k : Nat} (hk : k = Crc.leN (zs.take 4)) (h : ¬ (k < 1 ∨ 4000 < k ∨ zs.length < 8 + k)) : Frm.stands zs = if Frm.sumN ((zs.drop 8).take k) = Crc.leN ((zs.drop 4).take 4) then (zs.drop 8).take k else [] := by
  subst hk; unfold Frm.stands; rw [if_neg h8, if_neg h]
theorem part_8 (zs : List Int) (k : Nat) : (zs.take (8 + k)).drop 8 = (zs.drop 8).take k := by rw [List.drop_take, show 8 + k - 8 = k by omega]
theorem split_go {zs : List Int} {k : Nat} {l : List (List Int)} (h : Frm.split zs = (l ++ (Frm.split (zs.drop k)).1, k + (Frm.split (zs.drop k)).2)) (hne : Frm.stands (zs.drop k) ≠ []) :
    Frm.split zs = ((l ++ [Frm.stands (zs.drop k)]) ++ (Frm.split (zs.drop (k + 8 + (Frm.stands (zs.drop k)).length))).1, k + 8 + (Frm.stands (zs.drop k)).length + (Frm.split (zs.drop (k + 8 + (Frm.stands (zs.drop k)).length))).2) := by
  rw [h, Frm.split_some hne, List.drop_drop, show k + (8 + (Frm.stands (zs.drop k)).length) = k + 8 + (Frm.stands (zs.drop k)).length by omega]
  refine Prod.ext ?_ ?_
  · simp
  · simp only; omega
theorem split_stop {zs : List Int} {k : Nat} {l : List (List Int)} (h : Frm.split zs = (l ++ (Frm.split (zs.drop k)).1, k + (Frm.split (zs.drop k)).2)) (h0 : Frm.stands (zs.drop k) = []) : Frm.split zs = (l, k) := by
  rw [h, Frm.split_none h0]; simp
/-- What Split leaves: records of the call's own, and a place. -/
def SpDone (w0 : World) (r : List (List Int) × Nat) (e : Ending) (w : World) : Prop :=
  ∃ v ys, e = .returned (.tuple #[v, .int .i64 r.2]) ∧ ys.map (·.1) = r.1 ∧ OwnS w0.heap.size w v ys ∧ Below w0.heap.size w0 w
end
section
set_option linter.unusedSimpArgs false
set_option linter.unusedVariables false
open Go.RowKit Sha
end
section
set_option linter.unusedSimpArgs false
set_option linter.unusedVariables false
open Go.RowKit Sha
/-- What Put and Join leave: bytes of the call's own (their spare room holds bytes, too), and an error. -/
def FDone8 (w0 : World) (r : List Int × Int) (e : Ending) (w : World) : Prop :=
  ∃ v, e = .returned (.tuple #[v, .int .i64 r.2]) ∧ Own8 w w0.heap.size 5 v r.1.length (r.1.map v8) ∧ Below w0.heap.size w0 w
/-- What Split leaves: records of the call's own, and a place. -/
def SpDone8 (w0 : World) (r : List (List Int) × Nat) (e : Ending) (w : World) : Prop :=
  ∃ v ys, e = .returned (.tuple #[v, .int .i64 r.2]) ∧ ys.map (·.1) = r.1 ∧ OwnS w0.heap.size w v ys ∧ (∀ y ∈ ys, Ints8 w (cellS y)) ∧ Below w0.heap.size w0 w
/-- The contracts of the program's frames, on which the laws stand. -/
structure FrameOK : Prop where
  put : ∀ (zs : List Int) (n : Nat) (p : Option Addr) (cap : Nat) (w : World), zs.length = n → GoodS w (zs, p, cap) → Calls Try.prog 60 #[.slice p n cap] w (FDone8 w (Frm.put zs))
  join : ∀ (l : List (List Int)) (p : Option Addr) (n c : Nat) (w : World), Recs w p n c l → n ≤ 2000000 → Calls Try.prog 46 #[.slice p n c] w (FDone8 w (Frm.join l))
  size : ∀ (n : Int) (w : World), -9223372036854775808 ≤ n ∧ n ≤ 9223372036854775807 → Calls Try.prog 36 #[.int .i64 n] w fun e w' => e = .returned (.int .i64 (fsize n)) ∧ Below w.heap.size w w'
  split : ∀ (zs : List Int) (n : Nat) (p : Option Addr) (cap : Nat) (w : World), zs.length = n → GoodS w (zs, p, cap) → n ≤ 1000000000 → Calls Try.prog 39 #[.slice p n cap] w (SpDone8 w (Frm.split zs))
theorem at_mark (w : World) (cs : List Value) (t : TypeId) (fr : Nat × Nat) : At (w.alloc (.cells cs.toArray t fr)) (some ⟨w.heap.size, 0, none⟩) cs := by
  refine Or.inr ⟨_, 0, rfl, fun i v hi => ?_⟩
  rw [Nat.zero_add, cell_of_row _ _ i cs.toArray t fr (heap_alloc_new w _)]
  simpa using hi
theorem fr_a : Frm.put [97] = ([1, 0, 0, 0, 67, 190, 183, 232, 97], 0) := by decide +kernel
def oneCells : Array Value := #[.int .u8 1, .int .u8 0, .int .u8 0, .int .u8 0, .int .u8 67, .int .u8 190, .int .u8 183, .int .u8 232, .int .u8 97]
theorem one_own (w : World) : (w.alloc (Obj.cells oneCells 5)).ownsRow w.heap.size 5 1 (.slice (some ⟨w.heap.size, 0, none⟩) 9 9) 9 (([1, 0, 0, 0, 67, 190, 183, 232, 97] : List Int).map v8) := own_full w oneCells 9 5 (by decide) rfl
theorem one_good (w : World) : GoodS (w.alloc (Obj.cells oneCells 5)) ([1, 0, 0, 0, 67, 190, 183, 232, 97], some ⟨w.heap.size, 0, none⟩, 9) := by
  obtain ⟨p, cap, hv, hl, hm, hA, hx, hn⟩ := own_at (one_own w)
  cases hv
  exact ⟨by simp, hA, by simp, by simp, by intro h; cases h⟩
theorem bel_on {w w' w'' : World} (h : Below w.heap.size w w') (h2 : Below w'.heap.size w' w'') : Below w.heap.size w w'' := h.trans (h2.mono h.size)
theorem bel_alloc {w w' : World} (h : Below w.heap.size w w') (o : Obj) : Below w.heap.size w (w'.alloc o) := h.alloc h.size o
theorem string_info : (Try.prog.info? 9).map (fun i => i.size) = some 1 := by kernel_rfl
def aStr : ByteArray := ⟨#[97]⟩
theorem aStr_nums : nums aStr = [97] := by unfold nums aStr; rfl
theorem rec_a : Frm.Rec [97] := ⟨by decide, by decide⟩
theorem frs_a : Frm.frs [[97]] = [1, 0, 0, 0, 67, 190, 183, 232, 97] := by decide +kernel
theorem split_a3 : Frm.split [1, 0, 0, 0, 67, 190, 183, 232, 97, 1, 0, 0] = ([[97]], 9) := by
  have h := Frm.split_frs [[97]] [1, 0, 0] (by intro b hb; rw [List.mem_singleton.1 hb]; exact rec_a)
  rw [frs_a, Frm.split_none (bs := [1, 0, 0]) (by unfold Frm.stands; rw [if_pos (by decide)])] at h
  exact h
theorem fsize_1 : fsize 1 = 9 := by decide
end
section
set_option linter.unusedSimpArgs false
set_option linter.unusedVariables false
open Go.RowKit Sha
def markList : List Int := [8, 167, 44, 2]
theorem markList_bd : ∀ n ∈ markList, 0 ≤ n ∧ n ≤ 255 := by unfold markList; decide
theorem markList_length : markList.length = 4 := rfl
attribute [irreducible] markList
end
section
set_option linter.unusedSimpArgs false
set_option linter.unusedVariables false
open Go.RowKit Sha
/-- Bytes of the call's own, whatever they are. -/
def W8 (w : World) (B : Nat) (v : Value) (n : Nat) : Prop := ∃ xs, Own8 w B 5 v n xs
theorem own8_belowF {w w' : World} {B n : Nat} {v : Value} {xs : List Value} (h : Own8 w B 5 v n xs) (hb : Below w.heap.size w w') : Own8 w' B 5 v n xs :=
  ⟨own_belowS h.row hb, h.ints.carry fun g hg => hb.block g (h.row.lt g hg).2⟩
theorem W8.on {w w' : World} {B n : Nat} {v : Value} (h : W8 w B v n) (hb : Below w.heap.size w w') : W8 w' B v n := by
  obtain ⟨xs, h⟩ := h
  exact ⟨xs, own8_belowF h hb⟩
/-- What is written over a slice leaves another one a slice of bytes. -/
theorem W8.over {w w' : World} {B B' n n' : Nat} {v v' : Value} {xs : List Value} (hv : Own8 w B 5 v n xs) (h : W8 w B' v' n')
    (ho : ∀ k, some k ≠ v.ownBlock → w'.heap[k]? = w.heap[k]?) (hs : ∀ g cs, v.ownBlock = some g → Blk w g cs 5 → ∃ cs', Blk w' g cs' 5 ∧ cs'.length = cs.length ∧ ∀ u ∈ cs', ∃ n, u = Value.int .u8 n) : W8 w' B' v' n' := by
  obtain ⟨ys, hr, hi⟩ := h
  rcases hr.2 with ⟨hv', h0⟩ | ⟨g, cap, cur, hv', hg, hh, h1, h2, h3, h4⟩
  · exact ⟨ys, ⟨hr.1, Or.inl ⟨hv', h0⟩⟩, by rw [hv']; exact Ints8.nil _⟩
  · by_cases e : some g = v.ownBlock
    · obtain ⟨cs', hb', hl, hints⟩ := hs g cur.toList e.symm (by unfold Blk; simpa using hh)
      refine ⟨cs'.take n', ⟨by rw [List.length_take, hl]; simp; omega, Or.inr ⟨g, cap, cs'.toArray, hv', hg, hb', h1, h2, by simp [hl]; omega, by simp⟩⟩, ?_⟩
      rw [hv']
      exact ints_block hb' (by simpa using hints)
    · have hk := ho g e
      refine ⟨ys, ⟨hr.1, Or.inr ⟨g, cap, cur, hv', hg, by rw [hk]; exact hh, h1, h2, h3, h4⟩⟩, ?_⟩
      rw [hv'] at hi ⊢
      exact hi.carry fun g' hg' => by cases hg'; exact hk
/-- .. and the slice of slices as it was. -/
theorem outer_over {w w' : World} {B B' n : Nat} {v v' : Value} {xs : List Value} {ys : List SHdr} (hv : Own8 w B 5 v n xs) (h : w.ownsRow B' 22 1 v' ys.length (ys.map cellS))
    (ho : ∀ k, some k ≠ v.ownBlock → w'.heap[k]? = w.heap[k]?) : w'.ownsRow B' 22 1 v' ys.length (ys.map cellS) := by
  refine ⟨h.1, ?_⟩
  rcases h.2 with h' | ⟨g, cap, cur, hv', hg, hh, h4⟩
  · exact Or.inl h'
  · refine Or.inr ⟨g, cap, cur, hv', hg, ?_, h4⟩
    rw [ho g ?_]
    · exact hh
    · intro e
      rcases hv.row.2 with ⟨hv2, _⟩ | ⟨g2, cap2, cur2, hv2, _, hh2, _⟩
      · rw [hv2] at e; cases e
      · rw [hv2] at e
        cases e
        rw [hh2] at hh
        injection hh with hh; injection hh with _ ht
        exact us_ne ht
end
section
set_option linter.unusedSimpArgs false
set_option linter.unusedVariables false
open Go.RowKit Sha
theorem fput_bytes {zs : List Int} (h : ∀ n ∈ zs, 0 ≤ n ∧ n ≤ 255) : ∀ n ∈ (Frm.put zs).1, 0 ≤ n ∧ n ≤ 255 := by
  unfold Frm.put
  split
  · exact Frm.fr_bytes h
  · simp
theorem fjoin_bytes {l : List (List Int)} (h : ∀ b ∈ l, ∀ n ∈ b, 0 ≤ n ∧ n ≤ 255) : ∀ n ∈ (Frm.join l).1, 0 ≤ n ∧ n ≤ 255 := by
  unfold Frm.join
  split
  · exact Frm.frs_bytes h
  · simp
end
section
set_option linter.unusedSimpArgs false
set_option linter.unusedVariables false
open Go.RowKit Sha
section
variable {P : Program} {ops : Array Oper} {rest : List Oper} {o : Oper} {a : Act} {w : World} {Q : Exit → Act → World → Prop} {K : Act → World → Prop}
theorem made8 (n : Nat) : (madeCells (Value.cells (.int .u8 0)) (n * 1)).toList = (List.replicate n (0 : Int)).map v8 := by
  rw [Nat.mul_one]
  apply List.ext_getElem?
  intro i
  by_cases hi : i < n
  · simp [madeCells, Value.cells, hi, v8, Nat.mod_one]
  · simp [madeCells, Value.cells, hi]
/-- 'make([]byte, n)': noughts. -/
theorem wp_make8 (l c : Operand) (t e : TypeId) (ho : o.op = .makeSlice t l c) (ht : P.underlying t = some (.slice e)) (hi : (P.info? e).map (fun i => (i.zero, i.size, i.bytes)) = some (some (.int .u8 0), 1, 1)) (n : Nat) (hl : a.eval l = .int .i64 n) (hc : a.eval c = .int .i64 n) (hn : n ≤ 1000000)
    (h : ∀ w', w'.ownsRow w.heap.size e 1 (.slice (some ⟨w.heap.size, 0, none⟩) n n) n ((List.replicate n (0 : Int)).map v8) → RowKit.Below w.heap.size w w' → K (a.put o.dst (.slice (some ⟨w.heap.size, 0, none⟩) n n)) w') : o.wp P a w K Q := by
  obtain ⟨i, hi, hz0, hz1, hz2⟩ := info_parts hi
  obtain ⟨w', hrun, r1, r2⟩ := run_make_full (P := P) w w.heap.size t e i (.int .u8 0) 1 ht hi hz0 hz1 .i64 .i64 n (by rw [hz2]; omega) (by unfold maxLen; omega) (Nat.le_refl _)
  unfold Oper.wp
  simp [execOp, ho, hl, hc, hrun, Result.andThen]
  rw [made8] at r1
  exact h w' r1 ((RowKit.Below.refl _ _).grown r2 (Nat.le_refl _) (by simp))
end
theorem zeros_good {w' : World} {B g n : Nat} (h : w'.ownsRow B 5 1 (.slice (some ⟨g, 0, none⟩) n n) n ((List.replicate n (0 : Int)).map v8)) : GoodS w' (List.replicate n 0, some ⟨g, 0, none⟩, n) := by
  obtain ⟨p, cap, hv, hl, hm, hA, hx, hn⟩ := own_at h
  cases hv
  exact ⟨fun m hm => by rw [List.eq_of_mem_replicate hm]; omega, hA, by simp, by unfold maxLen at hm; simp only; omega, hn⟩
theorem put_nil0 : Frm.put [] = ([], 2) := by decide +kernel
theorem put_4001 : Frm.put (List.replicate 4001 0) = ([], 3) := by
  rw [fput_no (by rw [fbad_long (by rw [List.length_replicate]; omega)]; omega), fbad_long (by rw [List.length_replicate]; omega)]
theorem split_bad : Frm.split [1, 0, 0, 0, 67, 190, 183, 232, 98] = ([], 0) := Frm.split_none (by decide +kernel)
theorem split_zero8 : Frm.split (List.replicate 8 0) = ([], 0) := Frm.split_none (by decide +kernel)
theorem split_nil0 : Frm.split [] = ([], 0) := Frm.split_none (by decide)
theorem fsize_0 : fsize 0 = 0 := by decide
theorem fsize_4000 : fsize 4000 = 4008 := by decide
end
section
set_option linter.unusedSimpArgs false
set_option linter.unusedVariables false
open Go.RowKit Sha
def pickOf (x n : Int) : Int := if n < 1 then 0 else x % n
theorem tmod_bd (x n : Int) (h0 : 1 ≤ n) : -n < x.tmod n ∧ x.tmod n < n := by
  rw [Int.tmod_eq_emod]
  have h1 := Int.emod_nonneg x (show n ≠ 0 by omega)
  have h2 := Int.emod_lt_of_pos x (show 0 < n by omega)
  have h3 : (n.natAbs : Int) = n := by omega
  split
  · omega
  · rename_i h
    have h4 : x % n ≠ 0 := fun h5 => h (Or.inr (Int.dvd_of_emod_eq_zero h5))
    omega
theorem pick_pos (x n : Int) (h0 : 1 ≤ n) (h : ¬ x.tmod n < 0) : pickOf x n = x.tmod n := by
  unfold pickOf
  rw [if_neg (by omega)]
  rw [Int.tmod_eq_emod] at h ⊢
  have h2 := Int.emod_lt_of_pos x (show 0 < n by omega)
  have h3 : (n.natAbs : Int) = n := by omega
  split at h <;> rename_i h4 <;> simp [h4] <;> omega
theorem pick_neg (x n : Int) (h0 : 1 ≤ n) (h1 : n ≤ 9223372036854775807) (h : x.tmod n < 0) : pickOf x n = wrap64 (x.tmod n + n) := by
  have hb := tmod_bd x n h0
  have hw : wrap64 (x.tmod n + n) = x.tmod n + n := IntWalk.wrap64_in _ (by omega)
  rw [hw]
  unfold pickOf
  rw [if_neg (by omega)]
  rw [Int.tmod_eq_emod] at h ⊢
  have h2 := Int.emod_nonneg x (show n ≠ 0 by omega)
  have h3 : (n.natAbs : Int) = n := by omega
  split at h <;> rename_i h4 <;> simp [h4] <;> omega
theorem pickOf_bd (x n : Int) (h0 : 1 ≤ n) : 0 ≤ pickOf x n ∧ pickOf x n < n := by
  unfold pickOf
  rw [if_neg (by omega)]
  exact ⟨Int.emod_nonneg x (by omega), Int.emod_lt_of_pos x (by omega)⟩
set_option maxHeartbeats 400000 in
theorem pick_any (x n : Int) (w : World) (h0 : 1 ≤ n) (h1 : n ≤ 9223372036854775807) (hx : -9223372036854775808 ≤ x ∧ x ≤ 9223372036854775807) :
    Calls Try.prog 20 #[.int .i64 x, .int .i64 n] w fun e w' => e = .returned (.int .i64 (pickOf x n)) ∧ w = w' := by
  go_enter Try.func20, Try.ntmps20
  by_cases hneg : x.tmod n < 0
  · have HE := Lib.hid (pick_neg x n h0 h1 hneg)
    go_wp2
    go_ret
    exact ⟨ret_int (by rw [HE.out]), rfl⟩
  · have HE := Lib.hid (pick_pos x n h0 hneg)
    go_wp2
    go_ret
    exact ⟨ret_int (by rw [HE.out]), rfl⟩
end
section
set_option linter.unusedSimpArgs false
set_option linter.unusedVariables false
open Go.RowKit Sha
theorem join_err {l : List (List Int)} {b : List Int} {er : Int} (h : (b, er) = Frm.join l) (he : er ≠ 0) : b = [] := by
  unfold Frm.join at h
  split at h
  · cases h; exact absurd rfl he
  · cases h; rfl
theorem join_ok {l : List (List Int)} {b : List Int} (h : (b, (0 : Int)) = Frm.join l) : b = Frm.frs l ∧ ∀ x ∈ l, Frm.Rec x := by
  unfold Frm.join at h
  split at h
  · rename_i h0; cases h; exact ⟨rfl, Frm.joinE_ok h0⟩
  · rename_i h0
    have := (Prod.ext_iff.1 h).2
    exact absurd this.symm h0
theorem fsize_rec {x : List Int} (h : Frm.Rec x) (m : Nat) (hm : m = x.length) : fsize (m : Int) = ((8 + m : Nat) : Int) := by
  unfold fsize
  have h1 := h.one
  have h2 := h.most
  rw [if_neg (by omega)]; omega
theorem frs_take {l : List (List Int)} {k : Nat} (hk : k < l.length) : (Frm.frs (l.take (k + 1))).length = (Frm.frs (l.take k)).length + (8 + l[k].length) := by
  rw [List.take_succ_eq_append_getElem hk, Frm.frs_append, Frm.frs_cons, Frm.frs_nil, List.append_nil, List.length_append, Frm.fr_length]
theorem frs_bound (l : List (List Int)) (h : ∀ x ∈ l, Frm.Rec x) (k : Nat) : (Frm.frs (l.take k)).length ≤ 4008 * k := by
  induction k with
  | zero => simp [Frm.frs_nil]
  | succ k ih =>
    by_cases hk : k < l.length
    · rw [frs_take hk]; have := (h _ (List.getElem_mem hk)).most; omega
    · rw [List.take_of_length_le (by omega)] at ih ⊢; omega
theorem frs_many (l : List (List Int)) : l.length ≤ (Frm.frs l).length := by
  induction l with
  | nil => simp
  | cons b l ih => rw [Frm.frs_cons, List.length_append, Frm.fr_length, List.length_cons]; omega
theorem own_good {w : World} {B n : Nat} {v : Value} {xs : List Int} (h : w.ownsRow B 5 1 v n (xs.map v8)) (hb : ∀ m ∈ xs, 0 ≤ m ∧ m ≤ 255) : ∃ p c, v = .slice p n c ∧ xs.length = n ∧ GoodS w (xs, p, c) := by
  obtain ⟨p, cap, hv, hl, hm, hA, hx, hn⟩ := own_at h
  have hxl : xs.length = n := by simpa using hx
  exact ⟨p, cap, hv, hxl, hb, hA, by simp only; omega, by unfold maxLen at hm; simp only; omega, hn⟩
theorem cut_plain {l : List (List Int)} (h : ∀ x ∈ l, Frm.Rec x) (k cu t : Nat) (ht : t = (Frm.frs (l.take k)).length) (hk : k ≤ l.length) (htc : t ≤ cu) (hc : cu ≤ (Frm.frs l).length) (hlt : ∀ (hkl : k < l.length), cu < t + (8 + l[k].length)) :
    Frm.split ((Frm.frs l).take cu) = (l.take k, t) := by
  by_cases hkl : k < l.length
  · have h1 := Frm.split_torn (l.take k) (l.drop (k + 1)) l[k] (cu - t) (fun c hc => h c (List.mem_of_mem_take hc)) (h _ (List.getElem_mem hkl)) (by have := hlt hkl; omega)
    rw [← List.drop_eq_getElem_cons hkl, List.take_append_drop, ← ht, show t + (cu - t) = cu by omega] at h1
    exact h1
  · have e : l.take k = l := List.take_of_length_le (by omega)
    rw [e] at ht ⊢
    have ec : cu = (Frm.frs l).length := by omega
    rw [ec, List.take_length, Frm.split_join h, ht]
end
section
set_option linter.unusedSimpArgs false
set_option linter.unusedVariables false
open Go.RowKit Sha
theorem bits_u8 (a b : Int) : 0 ≤ bits BinOp.xor IntKind.u8 a b ∧ bits BinOp.xor IntKind.u8 a b ≤ 255 := by
  have h : bits BinOp.xor IntKind.u8 a b = IntKind.u8.wrap ((BitVec.ofInt 8 a ^^^ BitVec.ofInt 8 b).toNat : Int) := rfl
  rw [h, IntKind.wrap_u8]; omega
theorem xor_ne8 (a b : Int) (ha : 0 ≤ a ∧ a ≤ 255) (hb : 0 ≤ b ∧ b ≤ 255) (h0 : b ≠ 0) : bits BinOp.xor IntKind.u8 a b ≠ a := by
  intro h
  have e : bits BinOp.xor IntKind.u8 a b = IntKind.u8.wrap ((BitVec.ofInt 8 a ^^^ BitVec.ofInt 8 b).toNat : Int) := rfl
  rw [e, IntKind.wrap_u8] at h
  have hlt := (BitVec.ofInt 8 a ^^^ BitVec.ofInt 8 b).isLt
  have h1 : (BitVec.ofInt 8 a).toNat = a.toNat := by simp [BitVec.toNat_ofInt]; omega
  have h2 : (BitVec.ofInt 8 b).toNat = b.toNat := by simp [BitVec.toNat_ofInt]; omega
  have h3 : BitVec.ofInt 8 a ^^^ BitVec.ofInt 8 b = BitVec.ofInt 8 a := BitVec.eq_of_toNat_eq (by rw [h1]; omega)
  have h4 := congrArg (BitVec.ofInt 8 a ^^^ ·) h3
  simp only [← BitVec.xor_assoc, BitVec.xor_self, BitVec.zero_xor] at h4
  rw [h4] at h2
  simp at h2
  omega
theorem own_blk {w : World} {B n : Nat} {e : TypeId} {v : Value} {xs : List Value} (h : w.ownsRow B e 1 v n xs) (hn : 0 < n) : ∃ g cap rest, v = .slice (some ⟨g, 0, none⟩) n cap ∧ B ≤ g ∧ n ≤ cap ∧ cap ≤ maxLen ∧ Blk w g (xs ++ rest) e := by
  obtain ⟨_, h⟩ := h
  rcases h with ⟨_, h0⟩ | ⟨g, cap, cur, hv, hg, hh, h1, h2, h3, h4⟩
  · omega
  · refine ⟨g, cap, cur.toList.drop n, hv, hg, h1, h2, ?_⟩
    rw [Nat.mul_one] at h4
    rw [← h4, List.take_append_drop]
    unfold Blk; simpa using hh
theorem Blk.at {w : World} {g : Nat} {xs rest : List Value} {t : TypeId} (h : Blk w g (xs ++ rest) t) : At w (some ⟨g, 0, none⟩) xs := by
  refine Or.inr ⟨g, 0, rfl, fun i v hi => ?_⟩
  rw [Nat.zero_add, h.cell]
  rw [List.getElem?_append_left]
  · exact hi
  · by_cases hl : i < xs.length
    · exact hl
    · rw [List.getElem?_eq_none (by omega)] at hi; cases hi
theorem Blk.front_set {w : World} {g : Nat} {ys : List Int} {rest : List Value} {t : TypeId} (h : Blk w g (ys.map v8 ++ rest) t) (i : Nat) (hi : i < ys.length) (x : Int) : Blk (w.setCell ⟨g, i, none⟩ (v8 x)) g ((ys.set i x).map v8 ++ rest) t := by
  have := h.set i (v8 x)
  rwa [List.set_append_left _ _ (by simpa using hi), ← List.map_set] at this
end
section
set_option linter.unusedSimpArgs false
set_option linter.unusedVariables false
open Go.RowKit Sha
theorem spoilt_plain {l : List (List Int)} {b : List Int} (hb : b = Frm.frs l) (h : ∀ x ∈ l, Frm.Rec x) (hby : ∀ y ∈ l, ∀ n ∈ y, 0 ≤ n ∧ n ≤ 255) (i : Nat) (hi : i < l.length) (t kk : Nat) (ht : t = (Frm.frs (l.take i)).length) (h4 : 4 ≤ kk) (hk : kk < 8 + l[i].length) (old x : Int) (ho : b[t + kk]? = some old) (hx : 0 ≤ x ∧ x ≤ 255) (hne : x ≠ old) :
    Frm.split (b.set (t + kk) x) = (l.take i, t) := by
  have e : l = l.take i ++ l[i] :: l.drop (i + 1) := by rw [← List.drop_eq_getElem_cons hi, List.take_append_drop]
  have h1 := Frm.split_spoilt (l.take i) (l.drop (i + 1)) l[i] kk x (fun c hc => h c (List.mem_of_mem_take hc)) (h _ (List.getElem_mem hi)) (hby _ (List.getElem_mem hi)) hx h4 hk ?_
  · rw [← e, ← ht, ← hb] at h1
    exact h1
  · intro hx2
    have h2 : b[t + kk]? = (Frm.fr l[i])[kk]? := by
      have e2 : Frm.frs l = Frm.frs (l.take i) ++ (Frm.fr l[i] ++ Frm.frs (l.drop (i + 1))) := by
        conv => lhs; rw [e]
        rw [Frm.frs_append, Frm.frs_cons]
      rw [hb, ht, e2, List.getElem?_append_right (by omega), Nat.add_sub_cancel_left, List.getElem?_append_left (by rw [Frm.fr_length]; omega)]
    rw [h2, hx2] at ho
    exact hne (Option.some.inj ho)
theorem spoilt_room {l : List (List Int)} {b : List Int} (hb : b = Frm.frs l) (i : Nat) (hi : i < l.length) (t kk : Nat) (ht : t = (Frm.frs (l.take i)).length) (hk : kk < 8 + l[i].length) : t + kk < b.length := by
  have e : l = l.take i ++ l[i] :: l.drop (i + 1) := by rw [← List.drop_eq_getElem_cons hi, List.take_append_drop]
  rw [hb]
  conv => rhs; rw [e]
  rw [Frm.frs_append, Frm.frs_cons, List.length_append, List.length_append, Frm.fr_length]
  omega
end
end Go.Proofs.Ythopfpfmliookaa
