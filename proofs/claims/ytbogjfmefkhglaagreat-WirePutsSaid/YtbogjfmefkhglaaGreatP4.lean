/-
  The reference of frames: four, number, Size, Put, Join.
  The reference of frames: stands, Split.
  The kit's OverBytes, on a slice of the call's own.
  Strings as bytes in a walk: '[]byte(s)'; a region that draws its order and whose operations leave old memory alone.
  The law package of frames: what the program's frames are asked to do; one, splits, awake.
  What the wire package is asked to do (WireOK); the law's learn, within, awake.
  The kit's LongNote.
  Rows of structs as a block: one cell of one struct written over. General: no function is named here.
  Append to a row of structs of any size that is the call's or an object's own: where what comes of it lies. Whatever is appended, nothing too. No program is named here.
  The kit's CopyNote.
-/
import Derived.Test.YtbogjfmefkhglaaGreatP1
import Derived.Test.YtbogjfmefkhglaaGreatP3
import Derived.WalkSpells
import Derived.IntWalk
import Derived.WalkLawsBesides
import Derived.Deep.QuietTactic
import Derived.BigQuiet
import Derived.Test.YtbogjfmefkhglaaGreatP2
import Derived.Laws.IdiomStrings
import Derived.Laws.BytesArg
import Derived.Lib.SlBytesConst
import Derived.Deep.AppendLies
import Derived.Deep.CutRange
namespace Go.Proofs.YtbogjfmefkhglaaGreat
section
set_option linter.unusedSimpArgs false
set_option linter.unusedVariables false
open Go.RowKit Sha
theorem own_full (w : World) (cs : Array Value) (n : Nat) (e : TypeId) (hm : n ≤ maxLen) (hs : cs.size = n) : (w.alloc (.cells cs e)).ownsRow w.heap.size e 1 (.slice (some ⟨w.heap.size, 0, none⟩) n n) n cs.toList :=
  ⟨by simp [hs], .inr ⟨w.heap.size, n, cs, rfl, Nat.le_refl _, heap_alloc_new w _, Nat.le_refl _, hm, by simp [hs], by rw [Nat.mul_one, List.take_of_length_le (by simp [hs])]⟩⟩
theorem own_belowS {w w' : World} {B n size : Nat} {e : TypeId} {v : Value} {xs : List Value} (h : w.ownsRow B e size v n xs) (hb : Below w.heap.size w w') : w'.ownsRow B e size v n xs := by
  refine ⟨h.1, ?_⟩
  rcases h.2 with h' | ⟨g, cap, cur, hv, hg, hh, h4⟩
  · exact Or.inl h'
  · exact Or.inr ⟨g, cap, cur, hv, hg, by rw [hb.block g (h.lt g (by rw [hv]; rfl)).2]; exact hh, h4⟩
set_option maxRecDepth 100000 in
set_option maxHeartbeats 400000 in
theorem four_any (n : Nat) (hn : n < 4294967296) (w : World) :
    Calls Tryz.prog 54 #[.int .u32 n] w fun e w' => ∃ v, e = .returned v ∧ w'.ownsRow w.heap.size 5 1 v 4 ((Frm.le4 n).map v8) ∧ Below w.heap.size w w' := by
  go_enter Tryz.func54, Tryz.ntmps54
  go_wp2_with fail
  go_ret
  refine ⟨_, rfl, ?_, (Below.refl _ _).alloc (Nat.le_refl _) _⟩
  have e : ((n : Int) / 16777216) = ((n / 16777216 % 256 : Nat) : Int) := by omega
  rw [e]
  exact own_full w #[Value.int IntKind.u8 ((n : Int) % 256), Value.int IntKind.u8 ((n : Int) / 256 % 256), Value.int IntKind.u8 ((n : Int) / 65536 % 256), Value.int IntKind.u8 ((n / 16777216 % 256 : Nat) : Int)] 4 5 (by decide) rfl
theorem four_heads {zs : List Int} (h : 4 ≤ zs.length) : ∃ a b c d rest, zs = a :: b :: c :: d :: rest := by
  rcases zs with _ | ⟨a, _ | ⟨b, _ | ⟨c, _ | ⟨d, r⟩⟩⟩⟩
  · simp at h
  · simp at h
  · simp at h
  · simp at h
  · exact ⟨a, b, c, d, r, rfl⟩
/-- How long a record's frame is. -/
def fsize (n : Int) : Int := if n < 1 ∨ 4000 < n then 0 else 8 + n
/-- What Put and Join leave: bytes of the call's own, and an error. -/
def FDone (w0 : World) (r : List Int × Int) (e : Ending) (w : World) : Prop :=
  ∃ v, e = .returned (.tuple #[v, .int .i64 r.2]) ∧ w.ownsRow w0.heap.size 5 1 v r.1.length (r.1.map v8) ∧ Below w0.heap.size w0 w
theorem fput_no {b : List Int} (h : Frm.bad b ≠ 0) : Frm.put b = ([], Frm.bad b) := by unfold Frm.put; rw [if_neg h]
theorem fput_yes {b : List Int} (h : Frm.bad b = 0) : Frm.put b = (Frm.fr b, 0) := by unfold Frm.put; rw [if_pos h]
theorem fbad_nil {b : List Int} (h : b.length = 0) : Frm.bad b = 2 := by unfold Frm.bad; rw [if_pos h]
theorem fbad_long {b : List Int} (h : 4000 < b.length) : Frm.bad b = 3 := by unfold Frm.bad; rw [if_neg (by omega), if_pos h]
theorem fbad_ok {b : List Int} (h1 : b.length ≠ 0) (h2 : b.length ≤ 4000) : Frm.bad b = 0 := by unfold Frm.bad; rw [if_neg h1, if_neg (by omega)]
set_option maxRecDepth 100000 in
set_option maxHeartbeats 1000000 in
theorem rframe_any (zs : List Int) (n : Nat) (p : Option Addr) (cap : Nat) (w : World) (hn : zs.length = n) (h : GoodS w (zs, p, cap)) :
    Calls Tryz.prog 26 #[.slice p n cap] w (FDone w (Frm.put zs)) := by
  have G := Lib.hid h
  have HN := Lib.hid hn
  have hm := h.max
  have hc : n ≤ cap := by rw [← hn]; exact h.le
  simp only at hm
  clear h
  by_cases h0 : n = 0
  · have HP := Lib.hid (fput_no (b := zs) (by rw [fbad_nil (by rw [hn]; exact h0)]; omega))
    rw [fbad_nil (by rw [hn]; exact h0)] at HP
    subst h0
    clear hn
    go_enter Tryz.func26, Tryz.ntmps26
    go_wp2_with fail
    go_ret2
    exact ⟨.slice none 0 0, by rw [HP.out]; rfl, by rw [HP.out]; exact World.ownsRow_nil _ _ _ _, Below.refl _ _⟩
  · by_cases h4 : 4000 < n
    · have HP := Lib.hid (fput_no (b := zs) (by rw [fbad_long (by rw [hn]; exact h4)]; omega))
      rw [fbad_long (by rw [hn]; exact h4)] at HP
      have h0' : ((n : Int) == 0) = false := by rw [beq_eq_false_iff_ne]; omega
      clear hn h0
      go_enter Tryz.func26, Tryz.ntmps26
      go_wp2_with fail
      go_ret2
      exact ⟨.slice none 0 0, by rw [HP.out]; rfl, by rw [HP.out]; exact World.ownsRow_nil _ _ _ _, Below.refl _ _⟩
    · have HP := Lib.hid (fput_yes (b := zs) (fbad_ok (by rw [hn]; exact h0) (by omega)))
      have h0' : ((n : Int) == 0) = false := by rw [beq_eq_false_iff_ne]; omega
      have HSL := Lib.hid (Frm.sumN_lt zs)
      obtain ⟨sn, hsn⟩ : ∃ s, s = Frm.sumN zs := ⟨_, rfl⟩
      have HSN := Lib.hid (show v32 (Crc.sum zs) = .int .u32 sn by rw [hsn]; rfl)
      rw [← hsn] at HSL
      have HFR := Lib.hid (show Frm.fr zs = Frm.le4 n ++ Frm.le4 sn ++ zs by unfold Frm.fr; rw [hsn, hn])
      clear hn h0 hsn
      go_enter Tryz.func26, Tryz.ntmps26
      go_wp2_with (first
        | (have _t := tk2; at_builtin; clear tk2 _t; refine wpList_app rfl (.tmp 19) (.tmp 20) 28 rfl w.heap.size 5 Tryz.underlying28 kbyte_info rfl _ 8 _ rfl O4.out p n cap (zs.map v8) rfl (G.out.at_.below B4.out) (by rw [List.length_map]; exact HN.out) G.out.nil hc (kone8 _) (by omega) (by unfold maxLen; omega) B4.out.size ?_; intro v5 w5 hown5 _ hb5 hs5 _; have O5 := Lib.hid hown5; have B5 := Lib.hid (B4.out.trans hb5); clear hown5 hb5)
        | (have _t := tk1; at_builtin; clear tk1 _t; refine wpList_app rfl (.tmp 14) (.tmp 17) 28 rfl w.heap.size 5 Tryz.underlying28 kbyte_info rfl _ 4 _ rfl O3.out q3 4 c3 ((Frm.le4 sn).map v8) rfl A3.out rfl N3.out hc3 (kone8 _) (by omega) (by unfold maxLen; omega) B3.out.size ?_; intro v4 w4 hown4 _ hb4 hs4 _; have O4 := Lib.hid hown4; have B4 := Lib.hid (B3.out.trans hb4); clear hown4 hb4; have tk2 : True := trivial)
        | (have _t := tk0; go_at_call 54; clear tk0 _t; refine (four_any sn HSL.out _).mono ?_; rintro e w3 ⟨v3, rfl, ho3, hb3⟩; obtain ⟨q3, c3, rfl, hc3, _, hA3, _, hn3⟩ := own_at ho3; have O3 := Lib.hid (own_belowS O2.out hb3); have B3 := Lib.hid (B2.out.trans (hb3.mono B2.out.size)); have A3 := Lib.hid hA3; have N3 := Lib.hid hn3; clear ho3 hb3 hA3 hn3; have tk1 : True := trivial)
        | (go_at_call 54; refine (four_any n (by omega) w).mono ?_; rintro e w2 ⟨v2, rfl, ho2, hb2⟩; have O2 := Lib.hid ho2; have B2 := Lib.hid hb2; clear ho2 hb2; have tk0 : True := trivial)
        | (go_at_call 55; refine (rsum_any zs n p cap w2 HN.out.symm G.out.bytes (G.out.at_.below B2.out) hc hm).mono ?_; rw [HSN.out]; rintro e w9 ⟨rfl, rfl⟩))
      go_ret2
      refine ⟨_, by rw [HP.out]; rfl, ?_, B5.out⟩
      rw [HP.out]
      have h5 := O5.out
      simp only
      rw [HFR.out]
      have e1 : (Frm.le4 n ++ Frm.le4 sn ++ zs).length = 8 + n := by simp [Frm.le4_length, HN.out]; omega
      rw [e1, List.map_append, List.map_append]
      exact h5
end
section
set_option linter.unusedSimpArgs false
set_option linter.unusedVariables false
open Go.RowKit Sha
theorem cut_at {w : World} {p : Option Addr} {zs : List Int} (l h : Nat) (hA : At w p (((zs.map v8).take h).drop l)) : At w p (((zs.take h).drop l).map v8) := by
  rwa [List.map_drop, List.map_take]
theorem stands_lt8 {zs : List Int} (h : zs.length < 8) : Frm.stands zs = [] := by unfold Frm.stands; rw [if_pos h]
theorem stands_out {zs : List Int} (h8 : ¬ zs.length < 8) {k : Nat} (hk : k = Crc.leN (zs.take 4)) (h : k < 1 ∨ 4000 < k ∨ zs.length < 8 + k) : Frm.stands zs = [] := by
  subst hk; unfold Frm.stands; rw [if_neg h8, if_pos h]
theorem stands_in {zs : List Int} (h8 : ¬ zs.length < 8) {k : Nat} (hk : k = Crc.leN (zs.take 4)) (h : ¬ (k < 1 ∨ 4000 < k ∨ zs.length < 8 + k)) : Frm.stands zs = if Frm.sumN ((zs.drop 8).take k) = Crc.leN ((zs.drop 4).take 4) then (zs.drop 8).take k else [] := by
  subst hk; unfold Frm.stands; rw [if_neg h8, if_neg h]
theorem part_8 (zs : List Int) (k : Nat) : (zs.take (8 + k)).drop 8 = (zs.drop 8).take k := by rw [List.drop_take, show 8 + k - 8 = k by omega]
theorem split_go {zs : List Int} {k : Nat} {l : List (List Int)} (h : Frm.split zs = (l ++ (Frm.split (zs.drop k)).1, k + (Frm.split (zs.drop k)).2)) (hne : Frm.stands (zs.drop k) ≠ []) :
    Frm.split zs = ((l ++ [Frm.stands (zs.drop k)]) ++ (Frm.split (zs.drop (k + 8 + (Frm.stands (zs.drop k)).length))).1, k + 8 + (Frm.stands (zs.drop k)).length + (Frm.split (zs.drop (k + 8 + (Frm.stands (zs.drop k)).length))).2) := by
  rw [h, Frm.split_some hne, List.drop_drop, show k + (8 + (Frm.stands (zs.drop k)).length) = k + 8 + (Frm.stands (zs.drop k)).length by omega]
  refine Prod.ext ?_ ?_
  · simp
  · simp only; omega
theorem split_stop {zs : List Int} {k : Nat} {l : List (List Int)} (h : Frm.split zs = (l ++ (Frm.split (zs.drop k)).1, k + (Frm.split (zs.drop k)).2)) (h0 : Frm.stands (zs.drop k) = []) : Frm.split zs = (l, k) := by
  rw [h, Frm.split_none h0]; simp
end
section
set_option linter.unusedSimpArgs false
set_option linter.unusedVariables false
open Go.RowKit Sha
set_option maxRecDepth 100000 in
set_option maxHeartbeats 600000 in
theorem over_keep (B : Nat) (v : Value) (n : Nat) (xs : List Value) (w : World) (h : Own8 w B 5 v n xs) :
    Calls Tryz.prog 15 #[v] w fun e w' => e = .returned (.tuple #[]) ∧ Below B w w' ∧ (∀ k, some k ≠ v.ownBlock → w'.heap[k]? = w.heap[k]?) ∧ (∀ g cs, v.ownBlock = some g → Blk w g cs 5 → ∃ cs', Blk w' g cs' 5 ∧ cs'.length = cs.length ∧ ∀ u ∈ cs', ∃ n, u = Value.int .u8 n) := by
  rcases h.row.2 with ⟨rfl, rfl⟩ | ⟨g, cap, cur, rfl, hg, hh, h1, h2, h3, h4⟩
  · clear h
    go_enter Tryz.func15, Tryz.ntmps15
    go_wp2_with fail
    go_loopw [2] (fun i wr => i = .int .i64 0 ∧ w = wr) (fun i _ => (intOf i).toNat)
    case atStart => exact ⟨rfl, rfl⟩
    case round =>
      obtain ⟨rfl, rfl⟩ := hrel
      go_wp2_with fail
      go_end0
      exact ⟨rfl, Below.refl _ _, fun _ _ => rfl, fun g cs hg _ => by cases hg⟩
  · have hi := ints_row h.ints hh
    have hb : Blk w g cur.toList 5 := by unfold Blk; simpa using hh
    have hl : cur.toList.length = cap := by simp [h3]
    have hm : cap ≤ 9223372036854775807 := by unfold maxLen at h2; omega
    have HB := Lib.hid hb
    have HI := Lib.hid hi
    have HL := Lib.hid hl
    clear h hh h3 h4 hi hb hl h2
    go_enter Tryz.func15, Tryz.ntmps15
    go_wp2_with fail
    go_loopw [2] (fun i wr => ∃ (k : Nat) (cs : List Value), i = .int .i64 k ∧ k ≤ cap ∧ Hid (Blk wr g cs 5) ∧ Hid (cs.length = cap) ∧ Hid (∀ u ∈ cs, ∃ n, u = Value.int .u8 n) ∧ Hid (Below B w wr) ∧ Hid (∀ k, k ≠ g → wr.heap[k]? = w.heap[k]?)) (fun i _ => cap - (intOf i).toNat)
    case atStart => exact ⟨0, _, rfl, by omega, HB, HL, HI, Below.refl _ _, Lib.hid (fun _ _ => rfl)⟩
    case round =>
      have HB0 := HB
      have HL0 := HL
      clear HB HI HL
      obtain ⟨k, cs, rfl, hk, HB, HL, HI, HW, HOT⟩ := hrel
      by_cases hlt : k < cap
      · have hkl : k < cs.length := by rw [HL.out]; exact hlt
        obtain ⟨u, hu⟩ := HI.out cs[k] (List.getElem_mem hkl)
        have c0 : wr.cell? ⟨g, k, none⟩ = some (.int .u8 u) := by rw [HB.out.cell, List.getElem?_eq_getElem hkl, hu]
        have f0 : wr.frozen? ⟨g, k, none⟩ = false := HB.out.free k
        clear hu hkl
        go_wp2_with fail
        go_roundw
        case rel =>
          refine ⟨k + 1, cs.set k _, by go_num, by omega, Lib.hid (HB.out.set k _), Lib.hid (by rw [List.length_set]; exact HL.out), Lib.hid fun x hx => ?_, Lib.hid (HW.out.setCell hg _), Lib.hid fun i hi => (Below.heap_setCell _ _ _ _ hi).trans (HOT.out i hi)⟩
          rcases List.mem_or_eq_of_mem_set hx with hx | hx
          · exact HI.out x hx
          · exact ⟨_, hx⟩
        case measure => simp [intOf]; omega
      · obtain rfl : k = cap := by omega
        go_wp2_with fail
        go_end0
        refine ⟨rfl, HW.out, fun i hi => HOT.out i (fun e => hi (by rw [e]; rfl)), fun g' cs' hg' hb' => ?_⟩
        cases hg'
        have e : cs' = cur.toList := by
          have h1 := HB0.out
          unfold Blk at h1 hb'
          have h2 := h1.symm.trans hb'
          injection h2 with h2
          injection h2 with h2 _ _
          have h3 := congrArg Array.toList h2
          simpa using h3.symm
        exact ⟨cs, HB.out, by rw [HL.out, e, HL0.out], HI.out⟩
theorem over_any (B : Nat) (v : Value) (n : Nat) (xs : List Value) (w : World) (h : Own8 w B 5 v n xs) :
    Calls Tryz.prog 15 #[v] w fun e w' => e = .returned (.tuple #[]) ∧ Below B w w' :=
  (over_keep B v n xs w h).mono fun _ _ h => ⟨h.1, h.2.1⟩
end
section
set_option linter.unusedSimpArgs false
set_option linter.unusedVariables false
variable {P : Program}
/-- A string's bytes as numbers. -/
def nums (s : ByteArray) : List Int := s.data.toList.map fun b => (b.toNat : Int)
theorem nums_length (s : ByteArray) : (nums s).length = s.size := by
  unfold nums; rw [List.length_map, Array.length_toList]; rfl
attribute [irreducible] nums
section
variable {ops : Array Oper} {rest : List Oper} {o : Oper} {a : Act} {w : World} {Q : Exit → Act → World → Prop} {K : Act → World → Prop}
end
end
section
set_option linter.unusedSimpArgs false
set_option linter.unusedVariables false
open Go.RowKit Sha
/-- What Put and Join leave: bytes of the call's own (their spare room holds bytes, too), and an error. -/
def FDone8 (w0 : World) (r : List Int × Int) (e : Ending) (w : World) : Prop :=
  ∃ v, e = .returned (.tuple #[v, .int .i64 r.2]) ∧ Own8 w w0.heap.size 5 v r.1.length (r.1.map v8) ∧ Below w0.heap.size w0 w
/-- What Split leaves: records of the call's own, and a place. -/
def SpDone8 (w0 : World) (r : List (List Int) × Nat) (e : Ending) (w : World) : Prop :=
  ∃ v ys, e = .returned (.tuple #[v, .int .i64 r.2]) ∧ ys.map (·.1) = r.1 ∧ OwnS w0.heap.size w v ys ∧ (∀ y ∈ ys, Ints8 w (cellS y)) ∧ Below w0.heap.size w0 w
/-- The contracts of the program's frames, on which the laws stand. -/
structure FrameOK : Prop where
  put : ∀ (zs : List Int) (n : Nat) (p : Option Addr) (cap : Nat) (w : World), zs.length = n → GoodS w (zs, p, cap) → Calls Tryz.prog 25 #[.slice p n cap] w (FDone8 w (Frm.put zs))
  split : ∀ (zs : List Int) (n : Nat) (p : Option Addr) (cap : Nat) (w : World), zs.length = n → GoodS w (zs, p, cap) → n ≤ 1000000000 → Calls Tryz.prog 39 #[.slice p n cap] w (SpDone8 w (Frm.split zs))
theorem at_mark (w : World) (cs : List Value) (t : TypeId) (fr : Nat × Nat) : At (w.alloc (.cells cs.toArray t fr)) (some ⟨w.heap.size, 0, none⟩) cs := by
  refine Or.inr ⟨_, 0, rfl, fun i v hi => ?_⟩
  rw [Nat.zero_add, cell_of_row _ _ i cs.toArray t fr (heap_alloc_new w _)]
  simpa using hi
end
section
set_option linter.unusedSimpArgs false
set_option linter.unusedVariables false
open Go.RowKit Sha Nte
/-- Notes as LongNote has them. -/
structure Few (x : Not) : Prop where
  X : x.X.length ≤ 4100
  I : x.I.length ≤ 100
  W : x.W.length ≤ 100
/-- Which notes may be, which bytes one is, whether two are the same. -/
structure WirePart : Prop where
  check : ∀ (x : Not) (h : NHd) (w : World), NGood w x h → Few x → Calls Tryz.prog 11 #[.agg (ncells x h).toArray] w fun e w' => e = .returned (.int .i64 (check x)) ∧ Below w.heap.size w w'
  put : ∀ (x : Not) (h : NHd) (w : World), NGood w x h → Few x → Calls Tryz.prog 8 #[.agg (ncells x h).toArray] w (FDone8 w (put x))
  same : ∀ (x y : Not) (h k : NHd) (w : World), NGood w x h → NGood w y k → Few x → Few y → Calls Tryz.prog 13 #[.agg (ncells x h).toArray, .agg (ncells y k).toArray] w fun e w' => e = .returned (.bool (decide (x = y))) ∧ Below w.heap.size w w'
theorem few_can {x : Not} (h : Nte.check x = 0) : Few x := by
  have hc := (check_zero h).1
  have hd := inner_data hc
  have hl := (check_zero h).2
  obtain ⟨_, _, _, _, _, _, _, _, _, hi, _, hw, _⟩ := hc
  exact ⟨by omega, by omega, by omega⟩
def learnN : Not := { none_ with K := 14, F := 3, T := 4, C1 := 3, C2 := 1, C3 := 9, S := 300 }
theorem learn_ok : learnN.ok := by
  refine ⟨?_, ?_, ?_, ?_, ?_, ?_, ?_, ?_, zero_bytes, Fld.zero32_length, ?_, ?_, ?_, ?_, ?_, ?_⟩ <;> simp [learnN, none_, fit, Frm.Bytes]
theorem ngood_flat {w : World} {x : Not} (h : x.ok) (hX : x.X = []) (hI : x.I = []) (hW : x.W = []) : NGood w x NHd.none_ := by
  refine ⟨h, by rw [hX]; exact At.nil _ _, by rw [hX]; simp, by simp [NHd.none_], fun _ => rfl, ?_, ?_⟩
  · rw [hI]; exact Shp.Told.none_ w
  · rw [hW]; exact Shp.Told.none_ w
theorem num300 : Fld.num 300 = [172, 2] := by rw [Fld.num_ge (by omega), Fld.num_lt (by omega)]; rfl
theorem n8_small {n : Int} (h0 : 0 ≤ n) (h1 : n < 128) : n8 n = [n] := by
  unfold n8; rw [Fld.num_lt (by omega)]; simp; omega
theorem learn_inner : inner learnN = [14, 3, 4, 3, 1, 9, 172, 2] := by
  have h300 : n8 300 = [172, 2] := num300
  unfold inner learnN
  simp [letters, enb, h300, n8_small]
theorem learn_can : Nte.Can learnN := by
  unfold Nte.Can Nums Nte.Rest Nte.Call setOk nodeOk learnN
  simp [letters, none_]
theorem learn_check : check learnN = 0 := check_of learn_can (by rw [learn_inner]; decide)
theorem learn_yes : check { learnN with Y := true } = 2 := by
  refine check_no fun h => ?_
  have := h.2.2.2.2.2.1 rfl
  simp [learnN, letters] at this
theorem built_learn : Tryz.prog.built 32 [(0, .int .i64 14), (1, .int .i64 3), (2, .int .i64 4), (3, .agg #[.int .i64 3, .int .i64 1, .int .i64 9]), (4, .int .i64 300)] = some (ncells learnN NHd.none_).toArray := by unfold ncells learnN; kernel_rfl
section
attribute [local go_sem ↓] execOp_allocNote execOp_storeNote execOp_makeNote execOp_loadNote execOp_boxNote
set_option maxRecDepth 100000 in
set_option maxHeartbeats 1000000 in
theorem learn_any (w : World) : Calls Tryz.prog 22 #[] w fun e w' => e = .returned (.agg (ncells learnN NHd.none_).toArray) ∧ Below w.heap.size w w' := by
  have al := fun w => alloc_note w
  have mk := fun w => run_makeOp w built_learn
  have st := fun w => store_note1 w (x := learnN) (h := NHd.none_) nz_len
  go_enter Tryz.func22, Tryz.ntmps22
  go_wp2_with fail
  have hk := Blk.new w (ncells learnN NHd.none_).toArray 32
  have hB := (Below.refl w.heap.size w).alloc (Nat.le_refl _) (Obj.cells (ncells learnN NHd.none_).toArray 32)
  refine bodyPost_ret (v := .agg (ncells learnN NHd.none_).toArray) (results_cell_row rfl _ _ _ _ _ _ _ rfl hk (Tryz.underlying32) rfl (note_sizeA nz_len _)) rfl ?_
  exact ⟨rfl, hB⟩
set_option maxRecDepth 100000 in
set_option maxHeartbeats 2000000 in
theorem within_any (Wr : WirePart) (F : FrameOK) (x : Not) (h : NHd) (zs : List Int) (n : Nat) (q : Option Addr) (c : Nat) (w : World) (hx : NGood w x h) (hc : check x = 0) (hi : inner x = zs) (hn : zs.length = n) (hz : GoodS w (zs, q, c)) :
    Calls Tryz.prog 23 #[.agg (ncells x h).toArray, .slice q n c] w fun e w' => e = .returned (.bool true) ∧ Below w.heap.size w w' := by
  obtain ⟨g, w1, r1, hg1, hl1, K1, B1⟩ := box_note w x h
  have l1 := load_note (o := 0) hx.ok.len K1.range
  have HX := Lib.hid (hx.below B1)
  have HZ := Lib.hid (hz.below B1)
  have HB1 := Lib.hid B1
  have HN := Lib.hid hn
  have HFEW := Lib.hid (few_can hc)
  have HREC := Lib.hid (inner_rec hc)
  have HP := Lib.hid (put_ok hc)
  have HSP := Lib.hid (split_put hc)
  rw [hi] at HP HSP HREC
  have HLN := Lib.hid (Frm.fr_length zs)
  have HBY := Lib.hid (show Frm.Bytes (Frm.fr zs) from Frm.fr_bytes (by rw [← hi]; exact inner_bytes hx.ok))
  obtain ⟨m, hm⟩ : ∃ m, m = (Frm.fr zs).length := ⟨_, rfl⟩
  rw [← hm] at HSP HLN
  have HM := Lib.hid hm
  have hml : m ≤ 4008 := by have := HREC.out.most; have := HLN.out; omega
  clear hx hc hi hn hz K1 B1 hg1 hl1 hm
  go_enter Tryz.func23, Tryz.ntmps23
  go_wp2_with fail
  refine (Wr.put x h w1 HX.out HFEW.out).mono ?_
  rw [HP.out]
  rintro e1 w2 ⟨v, rfl, ho, hb⟩
  obtain ⟨p2, c2, rfl, hc2, hm2, hA2, _, hn2⟩ := own_at ho.row
  dsimp only
  rw [← HM.out] at hc2 ⊢
  have HB2 := Lib.hid (HB1.out.trans (hb.mono HB1.out.size))
  have HZ2 := Lib.hid (HZ.out.below hb)
  have G2 := Lib.hid (show GoodS w2 (Frm.fr zs, p2, c2) from ⟨HBY.out, hA2, by rw [← HM.out]; exact hc2, by unfold maxLen at hm2; simp only; omega, hn2⟩)
  clear ho hb hA2 hn2 r1 l1 HX HZ hc2 hm2
  go_wp2_with fail
  refine (F.split (Frm.fr zs) m p2 c2 w2 HM.out.symm G2.out (by omega)).mono ?_
  rw [HSP.out]
  rintro e3 w3 ⟨v3, ys, rfl, hys, ho3, _, hb3⟩
  obtain ⟨q3, c3, rfl, ht⟩ := ho3.told
  dsimp only at hys
  rw [hys] at ht
  have hyl : ys.length = 1 := by have := congrArg List.length hys; simpa using this
  rw [hyl] at *
  have HB3 := Lib.hid (HB2.out.trans (hb3.mono HB2.out.size))
  have HZ3 := Lib.hid (HZ2.out.below hb3)
  obtain ⟨b, off, q4, d4, rfl, hcell, hg4⟩ := ht.get 0 (by simp)
  simp only [List.getElem_cons_zero, Nat.add_zero] at hcell hg4
  rw [HN.out] at hcell
  have t1 := ht.le
  have t2 := ht.max
  have G4 := Lib.hid hg4
  clear ho3 hb3 ht hys hg4 HZ2 G2 hyl
  dsimp only
  go_wp2_with fail
  refine (same_any zs zs n n q4 q d4 c w3 HN.out HN.out G4.out.at_ HZ3.out.at_ G4.out.bytes G4.out.bytes).mono ?_
  rintro e5 w5 ⟨rfl, rfl⟩
  go_wp2_with fail
  go_ret
  exact ⟨by simp, HB3.out⟩
def yesN : Not := { learnN with Y := true }
theorem yes_cells (h : NHd) : (ncells learnN h).set 12 (.bool true) = ncells yesN h := rfl
theorem yes_ok : yesN.ok := ⟨learn_ok.K, learn_ok.F, learn_ok.T, learn_ok.C, learn_ok.S, learn_ok.H, learn_ok.B, learn_ok.O, learn_ok.D, learn_ok.len, learn_ok.X, learn_ok.Xl, learn_ok.I, learn_ok.Il, learn_ok.W, learn_ok.Wl⟩
theorem few_flat {x : Not} (hX : x.X = []) (hI : x.I = []) (hW : x.W = []) : Few x := ⟨by simp [hX], by simp [hI], by simp [hW]⟩
theorem good_made (w : World) (zs : List Int) (h : ∀ m ∈ zs, 0 ≤ m ∧ m ≤ 255) (hl : zs.length ≤ 100000) : GoodS (w.alloc (.cells (zs.map v8).toArray 5)) (zs, some ⟨w.heap.size, 0, none⟩, zs.length) :=
  ⟨h, at_mark w (zs.map v8) 5 (0, 0), by simp, by simp only; omega, by intro h; cases h⟩
set_option maxRecDepth 100000 in
set_option maxHeartbeats 2000000 in
theorem wawake_any (Wr : WirePart) (F : FrameOK) (w : World) : Calls Tryz.prog 6 #[] w fun e w' => e = .returned (.bool true) ∧ Below w.heap.size w w' := by
  go_enter Tryz.func6, Tryz.ntmps6
  go_wp2_with fail
  refine (learn_any w).mono ?_
  rintro e1 w1 ⟨rfl, hb1⟩
  have HB1 := Lib.hid hb1
  have al1 := alloc_note w1
  have st1 := store_note1 w1 (x := learnN) (h := NHd.none_) nz_len
  go_wp2_with fail
  rw [yes_cells]
  have HB2 := Lib.hid (HB1.out.trans (((Below.refl w1.heap.size w1).alloc (Nat.le_refl _) (Obj.cells (ncells yesN NHd.none_).toArray 32)).mono HB1.out.size))
  have K2 := Lib.hid (show Blk (w1.alloc (Obj.cells (ncells yesN NHd.none_).toArray 32)) w1.heap.size (ncells yesN NHd.none_) 32 from Blk.new w1 (ncells yesN NHd.none_).toArray 32)
  generalize w1.alloc (Obj.cells (ncells yesN NHd.none_).toArray 32) = w2 at *
  generalize w1.heap.size = g at *
  clear al1 st1 hb1
  refine (learn_any w2).mono ?_
  rintro e3 w3 ⟨rfl, hb3⟩
  have HB3 := Lib.hid (HB2.out.trans (hb3.mono HB2.out.size))
  have K3 := Lib.hid (K2.out.below hb3 K2.out.lt)
  have HG := Lib.hid (good_made w3 [14, 3, 4, 3, 1, 9, 172, 2] (by simp) (by simp))
  have HB4 := Lib.hid (HB3.out.trans (((Below.refl w3.heap.size w3).alloc (Nat.le_refl _) (Obj.cells (([14, 3, 4, 3, 1, 9, 172, 2] : List Int).map v8).toArray 5)).mono HB3.out.size))
  have K4 := Lib.hid (K3.out.below ((Below.refl w3.heap.size w3).alloc (Nat.le_refl _) (Obj.cells (([14, 3, 4, 3, 1, 9, 172, 2] : List Int).map v8).toArray 5)) K3.out.lt)
  clear hb3 K2 K3 HB2 HB3
  go_wp2_with fail
  refine (within_any Wr F learnN NHd.none_ [14, 3, 4, 3, 1, 9, 172, 2] 8 _ 8 _ (ngood_flat learn_ok rfl rfl rfl) learn_check learn_inner rfl HG.out).mono ?_
  rintro e5 w5 ⟨rfl, hb5⟩
  have HB5 := Lib.hid (HB4.out.trans (hb5.mono HB4.out.size))
  have l5 := load_note (x := yesN) (o := 0) nz_len (K4.out.below hb5 K4.out.lt).range
  clear hb5 HG HB4 K4
  go_wp2_with fail
  refine (Wr.check yesN NHd.none_ w5 (ngood_flat yes_ok rfl rfl rfl) (few_flat rfl rfl rfl)).mono ?_
  rw [show check yesN = 2 from learn_yes]
  rintro e6 w6 ⟨rfl, hb6⟩
  go_wp2_with fail
  go_ret
  exact ⟨rfl, HB5.out.trans (hb6.mono HB5.out.size)⟩
end
end
section
set_option linter.unusedSimpArgs false
set_option linter.unusedVariables false
open Go.RowKit Sha Nte
instance (x : Not) : Decidable (Few x) :=
  if h : x.X.length ≤ 4100 ∧ x.I.length ≤ 100 ∧ x.W.length ≤ 100 then isTrue ⟨h.1, h.2.1, h.2.2⟩ else isFalse (fun e => h ⟨e.X, e.I, e.W⟩)
section
attribute [local go_sem ↓] execOp_boxNote execOp_loadBytes execOp_loadIds execOp_loadWords
set_option maxRecDepth 100000 in
set_option maxHeartbeats 2000000 in
theorem longNote_any (x : Not) (h : NHd) (w : World) (hx : NGood w x h) :
    Calls Tryz.prog 5 #[.agg (ncells x h).toArray] w fun e w' => e = .returned (.bool (!decide (Few x))) ∧ Below w.heap.size w w' := by
  obtain ⟨g, w1, r1, hg1, hl1, K1, B1⟩ := box_note w x h
  have P := nblk K1 hx.ok.len
  have p1 := P.c45
  have p2 := P.c46
  have p3 := P.c47
  have i1 := hx.ok.Xl
  have i2 := hx.ok.Il
  have i3 := hx.ok.Wl
  have HB := Lib.hid B1
  obtain ⟨n1, hn1⟩ : ∃ n, n = x.X.length := ⟨_, rfl⟩
  obtain ⟨n2, hn2⟩ : ∃ n, n = x.I.length := ⟨_, rfl⟩
  obtain ⟨n3, hn3⟩ : ∃ n, n = x.W.length := ⟨_, rfl⟩
  rw [← hn1] at p1 i1
  rw [← hn2] at p2 i2
  rw [← hn3] at p3 i3
  have HF := Lib.hid (show (!decide (Few x)) = true ↔ 4100 < n1 ∨ 100 < n2 ∨ 100 < n3 from by
    simp only [Bool.not_eq_true', decide_eq_false_iff_not]
    constructor
    · intro hn
      by_cases h1 : 4100 < n1
      · exact Or.inl h1
      · by_cases h2 : 100 < n2
        · exact Or.inr (Or.inl h2)
        · by_cases h3 : 100 < n3
          · exact Or.inr (Or.inr h3)
          · exact absurd ⟨by omega, by omega, by omega⟩ hn
    · intro ho hf
      have := hf.X
      have := hf.I
      have := hf.W
      omega)
  generalize (!decide (Few x)) = z at *
  clear K1 B1 P hn1 hn2 hn3 hg1 hl1 hx
  by_cases h1 : 4100 < n1
  · have HZ := Lib.hid (HF.out.2 (Or.inl h1))
    have t1 : (4100 : Int) < (n1 : Int) := by omega
    clear HF
    go_enter Tryz.func5, Tryz.ntmps5
    go_wp2_with fail
    go_ret
    exact ⟨by rw [HZ.out]; rfl, HB.out⟩
  · by_cases h2 : 100 < n2
    · have HZ := Lib.hid (HF.out.2 (Or.inr (Or.inl h2)))
      have t1 : ¬ (4100 : Int) < (n1 : Int) := by omega
      have t2 : (100 : Int) < (n2 : Int) := by omega
      clear HF
      go_enter Tryz.func5, Tryz.ntmps5
      go_wp2_with fail
      go_ret
      exact ⟨by rw [HZ.out]; rfl, HB.out⟩
    · by_cases h3 : 100 < n3
      · have HZ := Lib.hid (HF.out.2 (Or.inr (Or.inr h3)))
        have t1 : ¬ (4100 : Int) < (n1 : Int) := by omega
        have t2 : ¬ (100 : Int) < (n2 : Int) := by omega
        have t3 : (100 : Int) < (n3 : Int) := by omega
        clear HF
        go_enter Tryz.func5, Tryz.ntmps5
        go_wp2_with fail
        go_ret
        exact ⟨by rw [HZ.out]; rfl, HB.out⟩
      · have HZ := Lib.hid (show z = false from by
          cases hz : z with
          | false => rfl
          | true => have := HF.out.1 hz; omega)
        have t1 : ¬ (4100 : Int) < (n1 : Int) := by omega
        have t2 : ¬ (100 : Int) < (n2 : Int) := by omega
        have t3 : ¬ (100 : Int) < (n3 : Int) := by omega
        clear HF
        go_enter Tryz.func5, Tryz.ntmps5
        go_wp2_with fail
        go_ret
        exact ⟨by rw [HZ.out]; rfl, HB.out⟩
end
end
section
set_option linter.unusedSimpArgs false
set_option linter.unusedVariables false
open Go.RowKit Sha
variable {P : Program} {V : Type} {S : Shp V}
theorem row_kind {w : World} {B n size : Nat} {e : TypeId} {v : Value} {xs : List Value} (h : w.ownsRow B e size v n xs) : ∀ k, v.ownBlock = some k → ∃ c fz, w.heap[k]? = some (.cells c e fz) := by
  intro k hk
  rcases h.2 with ⟨hv, _⟩ | ⟨g, cap, cur, hv, _, hh, _⟩
  · rw [hv] at hk; cases hk
  · rw [hv] at hk; cases hk; exact ⟨_, _, hh⟩
theorem row_base {w : World} {B n size : Nat} {e : TypeId} {v : Value} {xs : List Value} (h : w.ownsRow B e size v n xs) : ∀ k, v.ownBlock = some k → B ≤ k := by
  intro k hk
  rcases h.2 with ⟨hv, _⟩ | ⟨g, cap, cur, hv, hg, hh, _⟩
  · rw [hv] at hk; cases hk
  · rw [hv] at hk; cases hk; exact hg
theorem row_carry {w w' : World} {B n size : Nat} {e : TypeId} {v : Value} {xs : List Value} (h : w.ownsRow B e size v n xs) (hc : ∀ k c fz, v.ownBlock = some k → w.heap[k]? = some (.cells c e fz) → w'.heap[k]? = some (.cells c e fz)) : w'.ownsRow B e size v n xs := by
  refine ⟨h.1, ?_⟩
  rcases h.2 with h | ⟨g, cap, cur, hv, hg, hh, h4⟩
  · exact Or.inl h
  · exact Or.inr ⟨g, cap, cur, hv, hg, hc g _ _ (by rw [hv]; rfl) hh, h4⟩
end
section
set_option linter.unusedSimpArgs false
set_option linter.unusedVariables false
variable {P : Program}
theorem run_app_s (w : World) (B : Nat) (t ty e : TypeId) (i : TypeInfo) (z : Value) (size : Nat) (hsz : 0 < size) (by_ : Nat) (ht : P.underlying t = some (.slice e)) (hi : P.info? e = some i) (hz : i.zero = some z) (h1s : i.size = size) (hby : i.bytes = by_) (hzs : z.cells.size = size)
    (v : Value) (n : Nat) (xs : List Value) (hown : w.ownsRow B e size v n xs)
    (ad : Addr) (m c : Nat) (news : List Value) (hl : news.length = m * size) (hnews : ∀ j u, news[j]? = some u → w.cell? (ad.add j) = some u) (h1 : ∀ u ∈ news, u.oneCell' = true)
    (hmax : n + m ≤ maxLen) (hbytes : (n + m) * by_ ≤ 140737488355328) (hB : B ≤ w.heap.size) :
    ∃ v' w', (Builtin.append_ #[t, t] ty #[v, .slice (some ad) m c]).run P w = .ok v' w' ∧ w'.ownsRow B e size v' (n + m) (xs ++ news) ∧ w.grownBy w' v.ownBlock ∧ ∀ g, v'.ownBlock = some g → v.ownBlock = some g ∨ w.heap.size ≤ g := by
  by_cases hm : m = 0
  · obtain ⟨v', w', hr, h2, h3, _⟩ := run_append_own (P := P) w B t ty e i z size by_ ht hi hz h1s hby hzs hsz v n xs hown ad m c news hl hnews h1 hmax hbytes hB
    refine ⟨v', w', hr, h2, h3, ?_⟩
    subst hm
    have hn : news = [] := List.eq_nil_of_length_eq_zero (by simpa using hl)
    subst hn
    rcases hown.2 with ⟨rfl, rfl⟩ | ⟨g, cap, cur, rfl, hbg, hg, hnc, hcm, hcs, htake⟩
    · have hr' : (Builtin.append_ #[t, t] ty #[.slice none 0 0, .slice (some ad) 0 c]).run P w = .ok (.slice none 0 0) w := by
        simp [Builtin.append_, run_underlying ht, sizeOf, typeInfo, hi, Builtin.lenOf, Builtin.firstCells, loadCells, loadCellsFrom]
      rw [hr'] at hr
      cases hr
      intro g hg; cases hg
    · have hfit : n * i.size + ([] : List Value).length ≤ cur.size := by rw [h1s, hcs]; simpa using Nat.mul_le_mul_right size hnc
      have hr' := run_append_room (P := P) w t ty e i ht hi g n cap cur hg ad 0 c [] (by simp) hnews h1 (by omega) hfit
      rw [hr'] at hr
      cases hr
      intro g' hg'; exact .inl hg'
  · obtain ⟨g, cap, w', hr, h2, h3, h4, h5⟩ := run_append_lies (P := P) w t ty B e i z size by_ ht hi hz h1s hby hzs hsz v n xs hown ad m c news hl hnews h1 (by omega) hmax hbytes hB _ rfl
    refine ⟨_, w', hr, h2, h3, fun g' hg' => ?_⟩
    cases hg'
    rcases h4 with h | h
    · exact .inl h
    · exact .inr (by show w.heap.size ≤ g; omega)
variable {ops : Array Oper} {rest : List Oper} {o : Oper} {a : Act} {w : World} {Q : Exit → Act → World → Prop} {K : Act → World → Prop} {E : Prop}
theorem wp_app_s (s x : Operand) (t : TypeId) (ho : o.op = .call { callee := .builtin .append, args := #[s, x], argTypes := #[t, t] })
    (B : Nat) (e : TypeId) {z : Value} {size by_ : Nat} (hsz : 0 < size) (ht : P.underlying t = some (.slice e)) (hi : (P.info? e).map (fun i => (i.zero, i.size, i.bytes)) = some (some z, size, by_)) (hz : z.cells.size = size)
    (v : Value) (n : Nat) (xs : List Value) (hs : a.eval s = v) (hown : w.ownsRow B e size v n xs)
    (p : Option Addr) (m c : Nat) (news : List Value) (hx : a.eval x = .slice p m c) (hA : At w p news) (hl : news.length = m * size) (hn : p = none → c = 0) (hmc : m ≤ c) (h1 : ∀ u ∈ news, u.oneCell' = true)
    (hbytes : (n + m) * by_ ≤ 140737488355328) (hmax : n + m ≤ maxLen) (hB : B ≤ w.heap.size)
    (h : ∀ v' w', w'.ownsRow B e size v' (n + m) (xs ++ news) → w.grownBy w' v.ownBlock → (∀ g, v'.ownBlock = some g → v.ownBlock = some g ∨ w.heap.size ≤ g) → K (a.put o.dst v') w') : o.wp P a w K Q := by
  obtain ⟨i, hi, hz0, hz1, hz2⟩ := info_parts hi
  cases p with
  | none =>
    have hc := hn rfl
    have hm : m = 0 := by omega
    subst hc hm
    have hnews : news = [] := List.eq_nil_of_length_eq_zero (by simpa using hl)
    subst hnews
    have hrun := run_append_owned_none (P := P) (w := w) B t o.type e i size ht hi v n xs hown
    unfold Oper.wp
    simp [execOp, ho, resolve, invoke, builtin, hs, hx, hrun, Result.andThen]
    exact h v w (by simpa using hown) ⟨rfl, rfl, rfl, Nat.le_refl _, fun _ _ _ => rfl⟩ (fun g hg => .inl hg)
  | some ad =>
    obtain ⟨v', w', hr, h2, h3, h4⟩ := run_app_s (P := P) w B t o.type e i z size hsz by_ ht hi hz0 hz1 hz2 hz v n xs hown ad m c news hl (by
      intro j u hj
      rcases hA with hA | ⟨b, off, hA, hc⟩
      · subst hA; simp at hj
      · cases hA; rw [Addr.add_mid]; exact hc j u hj) h1 hmax hbytes hB
    unfold Oper.wp
    simp [execOp, ho, resolve, invoke, builtin, hs, hx, hr, Result.andThen]
    exact h v' w' h2 h3 h4
theorem wpList_app_s (hgd : o.guard = none) (s x : Operand) (t : TypeId) (ho : o.op = .call { callee := .builtin .append, args := #[s, x], argTypes := #[t, t] })
    (B : Nat) (e : TypeId) {z : Value} {size by_ : Nat} (hsz : 0 < size) (ht : P.underlying t = some (.slice e)) (hi : (P.info? e).map (fun i => (i.zero, i.size, i.bytes)) = some (some z, size, by_)) (hz : z.cells.size = size)
    (v : Value) (n : Nat) (xs : List Value) (hs : a.eval s = v) (hown : w.ownsRow B e size v n xs)
    (p : Option Addr) (m c : Nat) (news : List Value) (hx : a.eval x = .slice p m c) (hA : At w p news) (hl : news.length = m * size) (hn : p = none → c = 0) (hmc : m ≤ c) (h1 : ∀ u ∈ news, u.oneCell' = true)
    (hbytes : (n + m) * by_ ≤ 140737488355328) (hmax : n + m ≤ maxLen) (hB : B ≤ w.heap.size)
    (h : ∀ v' w', w'.ownsRow B e size v' (n + m) (xs ++ news) → w.grownBy w' v.ownBlock → (∀ g, v'.ownBlock = some g → v.ownBlock = some g ∨ w.heap.size ≤ g) → wpList P ops Q rest (a.put o.dst v') w') : wpList P ops Q (o :: rest) a w :=
  wpList_plain hgd fun _ hK => wp_app_s s x t ho B e hsz ht hi hz v n xs hs hown p m c news hx hA hl hn hmc h1 hbytes hmax hB fun v' w' h1 h2 h3 => hK _ _ (h v' w' h1 h2 h3)
end
section
set_option linter.unusedSimpArgs false
set_option linter.unusedVariables false
open Go.RowKit Sha Nte
theorem rowM_at {w : World} {B n size : Nat} {e : TypeId} {v : Value} {xs : List Value} (h : w.ownsRow B e size v n xs) : ∃ p cap, v = .slice p n cap ∧ n ≤ cap ∧ cap ≤ maxLen ∧ At w p xs ∧ xs.length = n * size ∧ (p = none → cap = 0) := by
  rcases h.2 with ⟨hv, h0⟩ | ⟨g, cap, cur, hv, hg, hh, h1, h2, h3, h4⟩
  · refine ⟨none, 0, by rw [hv, h0], by omega, by unfold maxLen; omega, Or.inl ?_, h.1, fun _ => rfl⟩
    have := h.1
    rw [h0] at this
    exact List.eq_nil_of_length_eq_zero (by simpa using this)
  · refine ⟨_, cap, hv, h1, h2, Or.inr ⟨g, 0, rfl, fun i u hu => ?_⟩, h.1, (fun h => by cases h)⟩
    have := h.cells (g := g) (by rw [hv]; rfl) i u hu
    rwa [Addr.add_mid] at this
theorem rowM_below {w w' : World} {B n size : Nat} {e : TypeId} {v : Value} {xs : List Value} (h : w.ownsRow B e size v n xs) (hb : Below w.heap.size w w') : w'.ownsRow B e size v n xs :=
  row_carry h fun k c fz hk hh => (hb.block k (Array.getElem?_eq_some_iff.1 hh).1).trans hh
theorem rowM_ne {w : World} {g B n size : Nat} {e : TypeId} {v : Value} {xs cs : List Value} (h : w.ownsRow B e size v n xs) (hk : Blk w g cs 32) (he : e ≠ 32) : ∀ k c fz, v.ownBlock = some k → w.heap[k]? = some (.cells c e fz) → k ≠ g := by
  intro k c fz _ hh e'
  subst e'
  unfold Blk at hk
  rw [hh] at hk
  have := Option.some.inj hk
  injection this with _ h2
  exact he h2
theorem rowM_set {w : World} {g i B n size : Nat} {e : TypeId} {v u : Value} {xs cs : List Value} (h : w.ownsRow B e size v n xs) (hk : Blk w g cs 32) (he : e ≠ 32) : (w.setCell ⟨g, i, none⟩ u).ownsRow B e size v n xs :=
  row_carry h fun k c fz hv hh => (heap_setCell_other w ⟨g, i, none⟩ k u (rowM_ne h hk he k c fz hv hh)).trans hh
theorem rowM_row {w : World} {g B n size : Nat} {e : TypeId} {v : Value} {xs cs : List Value} {c' : Array Value} (h : w.ownsRow B e size v n xs) (hk : Blk w g cs 32) (he : e ≠ 32) : (w.setRow g c').ownsRow B e size v n xs :=
  row_carry h fun k c fz hv hh => (setRow_other w g k c' (rowM_ne h hk he k c fz hv hh)).trans hh
theorem run_storeM {P : Program} {ty te : TypeId} {w : World} {g i : Nat} {cs : List Value} {v : Value} (hb : Blk w g cs te) (hl : i < cs.length) (hi : (P.info? ty).map (·.size) = some 1) (hv : v.cells = #[v]) (h1 : v.oneCell' = true) :
    (storeOp ty (.pointer (some ⟨g, i, none⟩)) v).run P w = .ok .skip (w.setCell ⟨g, i, none⟩ v) := by
  have ht := hb.there i 1 (by omega)
  have := run_storeCells_cells (P := P) g i [v] 0 w (fun j hj => by simpa using (ht j (by simpa using hj)).1) (fun j hj => by simpa using (ht j (by simpa using hj)).2) (by simpa using h1)
  unfold storeOp
  cases hq : P.info? ty with
  | none => simp [hq] at hi
  | some i =>
    have hs : i.size = 1 := by simpa [hq] using hi
    simp only [Nat.add_zero] at this
    simp [Instr.storeAt, Instr.sureAddr, storeVar, sizeOf, typeInfo, hq, hv, hs, this, World.setCells]
section
variable (ρ : Operand → Value) (dst : Option Tmp) (ty : TypeId) (pos : String) (after : Array Edge) (guard : Option (Nat × Bool)) (x y : Operand)
theorem execOp_storeBytesM : execOp ρ { dst := dst, op := .store 28 x y, type := ty, pos := pos, after := after, guard := guard } = storeOp 28 (ρ x) (ρ y) := by unfold storeOp; rfl
theorem execOp_storeIdsM : execOp ρ { dst := dst, op := .store 29 x y, type := ty, pos := pos, after := after, guard := guard } = storeOp 29 (ρ x) (ρ y) := by unfold storeOp; rfl
theorem execOp_storeWordsM : execOp ρ { dst := dst, op := .store 30 x y, type := ty, pos := pos, after := after, guard := guard } = storeOp 30 (ρ x) (ρ y) := by unfold storeOp; rfl
end
theorem bytesM_size : (Tryz.prog.info? 28).map (·.size) = some 1 := by kernel_rfl
theorem idsM_size : (Tryz.prog.info? 29).map (·.size) = some 1 := by kernel_rfl
theorem wordsM_size : (Tryz.prog.info? 30).map (·.size) = some 1 := by kernel_rfl
theorem idM_all : (Tryz.prog.info? 27).map (fun i => (i.zero, i.size, i.bytes)) = some (some (.agg (Fld.zero32.map v8).toArray), 32, 32) := by kernel_rfl
theorem idM_zsize : (Value.agg (Fld.zero32.map v8).toArray).cells.size = 32 := by kernel_rfl
theorem wordM_all : (Tryz.prog.info? 57).map (fun i => (i.zero, i.size, i.bytes)) = some (some (.agg #[nic 0, nic 0, nic 0]), 3, 24) := by kernel_rfl
theorem ncM_X {x : Not} (hx : x.D.length = 32) (h : NHd) (n : Nat) (hn : n = x.X.length) (q : Option Addr) (c : Nat) : (ncells x h).set 45 (.slice q n c) = ncells x { h with q := q, c := c } := by
  subst hn
  unfold ncells
  simp [List.set_append_right, hx]
theorem ncM_I {x : Not} (hx : x.D.length = 32) (h : NHd) (n : Nat) (hn : n = x.I.length) (q : Option Addr) (c : Nat) : (ncells x h).set 46 (.slice q n c) = ncells x { h with r := q, d := c } := by
  subst hn
  unfold ncells
  simp [List.set_append_right, hx]
theorem ncM_W {x : Not} (hx : x.D.length = 32) (h : NHd) (n : Nat) (hn : n = x.W.length) (q : Option Addr) (c : Nat) : (ncells x h).set 47 (.slice q n c) = ncells x { h with s := q, e := c } := by
  subst hn
  unfold ncells
  simp [List.set_append_right, hx]
/-- A row of the call's own, told. -/
theorem rowM_told {V : Type} {S : Shp V} {w : World} {B : Nat} {t : TypeId} {v : Value} {n : Nat} {l : List V} {ys : List (Hd V)} (h : w.ownsRow B t S.n v n (ys.flatMap S.row)) (hm : ys.map (·.1) = l) (hn : n = l.length) (hg : ∀ y ∈ ys, S.Good w y.1 y.2.1 y.2.2) (hb : ∀ y ∈ ys, S.byt y.1 = []) : ∃ q c, v = .slice q n c ∧ S.Told w q n c l := by
  obtain ⟨p, cap, hv, h1, h2, hA, hl, hp⟩ := rowM_at h
  exact ⟨p, cap, hv, hn, h1, by unfold maxLen at h2; omega, hp, ys, hm, hA, hg⟩
theorem goodM {V : Type} {S : Shp V} (hS : ∀ x, S.byt x = []) {w w' : World} {x : V} {q : Option Addr} {c : Nat} (h : S.Good w x q c) : S.Good w' x q c :=
  ⟨h.ok, by rw [hS]; exact At.nil _ _, h.le, h.max, h.nil⟩
theorem rowM_weak {w : World} {B B' n size : Nat} {e : TypeId} {v : Value} {xs : List Value} (h : w.ownsRow B e size v n xs) (hB : B' ≤ B) : w.ownsRow B' e size v n xs := by
  refine ⟨h.1, ?_⟩
  rcases h.2 with h | ⟨g, cap, cur, hv, hg, h4⟩
  · exact Or.inl h
  · exact Or.inr ⟨g, cap, cur, hv, by omega, h4⟩
/-- A note whose bytes, ids and words lie in rows of the call's own. -/
structure NRow (w : World) (B : Nat) (x : Not) (h : NHd) : Prop where
  X : w.ownsRow B 5 1 (.slice h.q x.X.length h.c) x.X.length (x.X.map v8)
  I : ∃ ys : List (Hd (List Int)), ys.map (·.1) = x.I ∧ (∀ y ∈ ys, sI.Good w y.1 y.2.1 y.2.2) ∧ w.ownsRow B 27 32 (.slice h.r x.I.length h.d) x.I.length (ys.flatMap sI.row)
  W : ∃ ys : List (Hd Mb), ys.map (·.1) = x.W ∧ (∀ y ∈ ys, sW.Good w y.1 y.2.1 y.2.2) ∧ w.ownsRow B 57 3 (.slice h.s x.W.length h.e) x.W.length (ys.flatMap sW.row)
theorem NRow.keep {w w' : World} {B : Nat} {x : Not} {h : NHd} (r : NRow w B x h) (hk : ∀ (k : Nat) (c : Array Value) (e : TypeId) (fz : Nat × Nat), e ≠ 32 → w.heap[k]? = some (Obj.cells c e fz) → w'.heap[k]? = some (Obj.cells c e fz)) : NRow w' B x h := by
  obtain ⟨hX, ⟨ys, a1, a2, a3⟩, ⟨zs, b1, b2, b3⟩⟩ := r
  exact ⟨row_carry hX fun k c fz _ hh => hk k c _ fz (by decide) hh, ⟨ys, a1, fun y hy => goodM (fun _ => rfl) (a2 y hy), row_carry a3 fun k c fz _ hh => hk k c _ fz (by decide) hh⟩, ⟨zs, b1, fun y hy => goodM (fun _ => rfl) (b2 y hy), row_carry b3 fun k c fz _ hh => hk k c _ fz (by decide) hh⟩⟩
theorem NRow.below {w w' : World} {B : Nat} {x : Not} {h : NHd} (r : NRow w B x h) (hb : Below w.heap.size w w') : NRow w' B x h :=
  r.keep fun k c e fz _ hh => (hb.block k (Array.getElem?_eq_some_iff.1 hh).1).trans hh
theorem NRow.setRow {w : World} {B g : Nat} {x : Not} {h : NHd} {cs : List Value} (r : NRow w B x h) (hk : Blk w g cs 32) (c' : Array Value) : NRow (w.setRow g c') B x h :=
  r.keep fun k c e fz he hh => (setRow_other w g k c' (fun e' => by
    subst e'
    unfold Blk at hk
    rw [hh] at hk
    have := Option.some.inj hk
    injection this with _ h2
    exact he h2)).trans hh
theorem NRow.weak {w : World} {B B' : Nat} {x : Not} {h : NHd} (r : NRow w B x h) (hB : B' ≤ B) : NRow w B' x h := by
  obtain ⟨hX, ⟨ys, a1, a2, a3⟩, ⟨zs, b1, b2, b3⟩⟩ := r
  exact ⟨rowM_weak hX hB, ⟨ys, a1, a2, rowM_weak a3 hB⟩, ⟨zs, b1, b2, rowM_weak b3 hB⟩⟩
theorem NRow.good {w : World} {B : Nat} {x : Not} {h : NHd} (r : NRow w B x h) (hx : x.ok) : NGood w x h := by
  obtain ⟨hX, ⟨ys, a1, a2, a3⟩, ⟨zs, b1, b2, b3⟩⟩ := r
  obtain ⟨q9, c9, e9, hc9, hm9, hA9, hx9, hn9⟩ := own_at hX
  cases e9
  obtain ⟨q10, c10, e10, T10⟩ := rowM_told a3 a1 rfl a2 (fun _ _ => rfl)
  cases e10
  obtain ⟨q11, c11, e11, T11⟩ := rowM_told b3 b1 rfl b2 (fun _ _ => rfl)
  cases e11
  exact ⟨hx, hA9, hc9, by unfold maxLen at hm9; omega, hn9, T10, T11⟩
/-- What CopyNote leaves. -/
def NCopied (x : Not) (w : World) (e : Ending) (w' : World) : Prop := ∃ h, e = .returned (.agg (ncells x h).toArray) ∧ NRow w' w.heap.size x h ∧ Below w.heap.size w w'
attribute [local go_sem ↓] execOp_boxNote execOp_allocNote execOp_loadBytes execOp_loadIds execOp_loadWords execOp_storeBytesM execOp_storeIdsM execOp_storeWordsM execOp_loadNote execOp_storeNote
set_option maxRecDepth 100000 in
set_option maxHeartbeats 4000000 in
theorem copyNote_any (x : Not) (h : NHd) (w : World) (hx : NGood w x h) (hf : Few x) :
    Calls Tryz.prog 7 #[.agg (ncells x h).toArray] w (NCopied x w) := by
  obtain ⟨g, w1, r1, hg1, hl1, K1, B1⟩ := box_note w x h
  have al := alloc_note w1
  have HX := Lib.hid hx
  have HD := Lib.hid hx.ok.len
  obtain ⟨n1, hn1⟩ : ∃ n, n = x.X.length := ⟨_, rfl⟩
  obtain ⟨n2, hn2⟩ : ∃ n, n = x.I.length := ⟨_, rfl⟩
  obtain ⟨n3, hn3⟩ : ∃ n, n = x.W.length := ⟨_, rfl⟩
  have N1 := Lib.hid hn1
  have N2 := Lib.hid hn2
  have N3 := Lib.hid hn3
  have f1 : n1 ≤ 4100 := by have := hf.X; omega
  have f2 : n2 ≤ 100 := by have := hf.I; omega
  have f3 : n3 ≤ 100 := by have := hf.W; omega
  obtain ⟨ys, hy1, hy2, hyA, hyg, hyl⟩ := hx.I.rows'
  obtain ⟨zs, hz1, hz2, hzA, hzg, hzl⟩ := hx.W.rows'
  have HY1 := Lib.hid hy1
  have HZ1 := Lib.hid hz1
  have HYG := Lib.hid hyg
  have HZG := Lib.hid hzg
  have HYL := Lib.hid (show (ys.flatMap sI.row).length = n2 * 32 by rw [hyl, hn2]; rfl)
  have HZL := Lib.hid (show (zs.flatMap sW.row).length = n3 * 3 by rw [hzl, hn3]; rfl)
  have HYA := Lib.hid hyA
  have HZA := Lib.hid hzA
  have hb2 := (Below.refl w1.heap.size w1).alloc (Nat.le_refl _) (Obj.cells (ncells none_ NHd.none_).toArray 32)
  have KR := Lib.hid (show Blk (w1.alloc (Obj.cells (ncells none_ NHd.none_).toArray 32)) w1.heap.size (ncells none_ NHd.none_) 32 from Blk.new w1 (ncells none_ NHd.none_).toArray 32)
  have K2 := Lib.hid (K1.below hb2 hl1)
  have B2 := Lib.hid (B1.trans (hb2.mono B1.size))
  obtain ⟨gr, hgr⟩ : ∃ gr, gr = w1.heap.size := ⟨_, rfl⟩
  have hne : g ≠ gr := by omega
  have HNE := Lib.hid hne
  obtain ⟨w2, hw2⟩ : ∃ w2, w2 = w1.alloc (Obj.cells (ncells none_ NHd.none_).toArray 32) := ⟨_, rfl⟩
  rw [← hgr, ← hw2] at al KR
  rw [← hw2] at K2 B2
  have hgb := B1.size
  have HGB := Lib.hid (show w.heap.size ≤ g by omega)
  have HGR := Lib.hid (show w.heap.size ≤ gr by omega)
  clear hy1 hy2 hyA hyg hyl hz1 hz2 hzA hzg hzl hn1 hn2 hn3 hx hf hb2 hgr hw2 hne hgb hg1 hl1 K1 B1
  have hb3 := (Below.refl w2.heap.size w2).alloc (Nat.le_refl _) (Obj.cells #[] 5)
  have l1 := (nblk (K2.out.below hb3 K2.out.lt) HD.out).c45
  rw [← N1.out] at l1
  have W2 := Lib.hid (show w.heap.size ≤ w2.heap.size from B2.out.size)
  have HO := Lib.hid (World.ownsRow_made (base := w2.heap.size) (size := 1) (e := 5) w2 #[] 0 (Nat.le_refl _) (by decide) rfl)
  have HA1 := Lib.hid (HX.out.X.below (B2.out.trans (hb3.mono B2.out.size)))
  have hX2 := HX.out.Xn
  have hX3 : n1 ≤ h.c := by rw [N1.out]; exact HX.out.Xc
  have HB3 := Lib.hid hb3
  clear hb3
  go_enter Tryz.func7, Tryz.ntmps7
  go_upto_region 2 with (
    clear r1 al
    at_builtin
    refine wpList_app rfl (.tmp 3) (.tmp 5) 28 rfl w2.heap.size 5 Tryz.underlying28 kbyte_info rfl _ 0 [] rfl HO.out h.q n1 h.c (x.X.map v8) rfl HA1.out (by simp [N1.out]) hX2 hX3 (kone8 _) (by omega) (by unfold maxLen; omega) (by simp) ?_
    intro v3 w3 hown3 _ hb3 hs3 _
    simp only [Nat.zero_add, List.nil_append] at hown3
    have hb3' := HB3.out.trans hb3
    have K3 := Lib.hid (K2.out.below hb3' K2.out.lt)
    have KR3 := Lib.hid (KR.out.below hb3' KR.out.lt)
    have B3 := Lib.hid (B2.out.trans (hb3'.mono B2.out.size))
    obtain ⟨q3, c3, rfl, hc3, hm3, hA3, hx3, hn3⟩ := own_at hown3
    have st := run_storeM (P := Tryz.prog) (ty := 28) (v := .slice q3 n1 c3) K3.out (by rw [ncells_length HD.out]; omega : 45 < (ncells x h).length) bytesM_size rfl rfl
    have K4 := Lib.hid (show Blk (w3.setCell ⟨g, 45, none⟩ (.slice q3 n1 c3)) g (ncells x { h with q := q3, c := c3 }) 32 from by
      rw [← ncM_X HD.out h n1 N1.out]; exact K3.out.set 45 _)
    have KR4 := Lib.hid (KR3.out.setOther ⟨g, 45, none⟩ (.slice q3 n1 c3) (fun e => HNE.out e.symm))
    have O4 := Lib.hid (rowM_set (i := 45) (u := .slice q3 n1 c3) hown3 K3.out (by decide))
    have B4 := Lib.hid (B3.out.setCell (p := ⟨g, 45, none⟩) HGB.out (.slice q3 n1 c3))
    clear hown3 hb3 hs3 hb3' hA3 hx3 HO HA1 hX2 hX3 K3 KR3 B3 K2 KR B2 HB3 l1
    obtain ⟨w4, hw4⟩ : ∃ w4, w4 = w3.setCell ⟨g, 45, none⟩ (.slice q3 n1 c3) := ⟨_, rfl⟩
    rw [← hw4] at st K4 KR4 O4 B4
    clear hw4)
  have hb5 := (Below.refl w4.heap.size w4).alloc (Nat.le_refl _) (Obj.cells #[] 27)
  have l2 := (nblk (K4.out.below hb5 K4.out.lt) HD.out).c46
  dsimp only at l2
  rw [← N2.out] at l2
  have W4 := Lib.hid (show w.heap.size ≤ w4.heap.size from B4.out.size)
  have HO := Lib.hid (World.ownsRow_made (base := w4.heap.size) (size := 32) (e := 27) w4 #[] 0 (Nat.le_refl _) (by decide) rfl)
  have HA1 := Lib.hid (HYA.out.below (B4.out.trans (hb5.mono B4.out.size)))
  have hX2 := HX.out.I.nil
  have hX3 : n2 ≤ h.d := by rw [N2.out]; exact HX.out.I.le
  have HB5 := Lib.hid hb5
  clear hb5
  go_upto_region 3 with (
    clear st
    at_builtin
    refine wpList_app_s rfl (.tmp 8) (.tmp 10) 29 rfl w4.heap.size 27 (z := .agg (Fld.zero32.map v8).toArray) (size := 32) (by decide) Tryz.underlying29 idM_all idM_zsize _ 0 [] rfl HO.out h.r n2 h.d (ys.flatMap sI.row) rfl HA1.out HYL.out hX2 hX3 (Shp.flat_one ys) (by omega) (by unfold maxLen; omega) (by simp) ?_
    intro v5 w5 hown5 hgr5 _
    simp only [Nat.zero_add, List.nil_append] at hown5
    have hb5' := HB5.out.grown hgr5 (by simp) (fun k e => row_base HO.out k e)
    have K5 := Lib.hid (K4.out.below hb5' K4.out.lt)
    have KR5 := Lib.hid (KR4.out.below hb5' KR4.out.lt)
    have O5 := Lib.hid (rowM_below O4.out hb5')
    have B5 := Lib.hid (B4.out.trans (hb5'.mono B4.out.size))
    obtain ⟨q5, c5, rfl, hc5, hm5, hA5, hx5, hn5⟩ := rowM_at hown5
    have st := run_storeM (P := Tryz.prog) (ty := 29) (v := .slice q5 n2 c5) K5.out (by rw [ncells_length HD.out]; omega : 46 < (ncells x { h with q := q3, c := c3 }).length) idsM_size rfl rfl
    have K6 := Lib.hid (show Blk (w5.setCell ⟨g, 46, none⟩ (.slice q5 n2 c5)) g (ncells x { h with q := q3, c := c3, r := q5, d := c5 }) 32 from by
      rw [← ncM_I HD.out { h with q := q3, c := c3 } n2 N2.out]; exact K5.out.set 46 _)
    have KR6 := Lib.hid (KR5.out.setOther ⟨g, 46, none⟩ (.slice q5 n2 c5) (fun e => HNE.out e.symm))
    have O6 := Lib.hid (rowM_set (i := 46) (u := .slice q5 n2 c5) O5.out K5.out (by decide))
    have P6 := Lib.hid (rowM_set (i := 46) (u := .slice q5 n2 c5) hown5 K5.out (by decide))
    have B6 := Lib.hid (B5.out.setCell (p := ⟨g, 46, none⟩) HGB.out (.slice q5 n2 c5))
    clear hown5 hgr5 hb5' hA5 hx5 HO HA1 hX2 hX3 K5 KR5 B5 K4 KR4 B4 HB5 l2 O4 O5
    obtain ⟨w6, hw6⟩ : ∃ w6, w6 = w5.setCell ⟨g, 46, none⟩ (.slice q5 n2 c5) := ⟨_, rfl⟩
    rw [← hw6] at st K6 KR6 O6 P6 B6
    clear hw6)
  have hb7 := (Below.refl w6.heap.size w6).alloc (Nat.le_refl _) (Obj.cells #[] 57)
  have l3 := (nblk (K6.out.below hb7 K6.out.lt) HD.out).c47
  dsimp only at l3
  rw [← N3.out] at l3
  have W6 := Lib.hid (show w.heap.size ≤ w6.heap.size from B6.out.size)
  have HO := Lib.hid (World.ownsRow_made (base := w6.heap.size) (size := 3) (e := 57) w6 #[] 0 (Nat.le_refl _) (by decide) rfl)
  have HA1 := Lib.hid (HZA.out.below (B6.out.trans (hb7.mono B6.out.size)))
  have hX2 := HX.out.W.nil
  have hX3 : n3 ≤ h.e := by rw [N3.out]; exact HX.out.W.le
  have HB7 := Lib.hid hb7
  clear hb7
  go_upto_region 4 with (
    clear st
    at_builtin
    refine wpList_app_s rfl (.tmp 13) (.tmp 15) 30 rfl w6.heap.size 57 (z := .agg #[nic 0, nic 0, nic 0]) (size := 3) (by decide) Tryz.underlying30 wordM_all (by kernel_rfl) _ 0 [] rfl HO.out h.s n3 h.e (zs.flatMap sW.row) rfl HA1.out HZL.out hX2 hX3 (Shp.flat_one zs) (by omega) (by unfold maxLen; omega) (by simp) ?_
    intro v7 w7 hown7 hgr7 _
    simp only [Nat.zero_add, List.nil_append] at hown7
    have hb7' := HB7.out.grown hgr7 (by simp) (fun k e => row_base HO.out k e)
    have K7 := Lib.hid (K6.out.below hb7' K6.out.lt)
    have KR7 := Lib.hid (KR6.out.below hb7' KR6.out.lt)
    have O7 := Lib.hid (rowM_below O6.out hb7')
    have P7 := Lib.hid (rowM_below P6.out hb7')
    have B7 := Lib.hid (B6.out.trans (hb7'.mono B6.out.size))
    obtain ⟨q7, c7, rfl, hc7, hm7, hA7, hx7, hn7⟩ := rowM_at hown7
    have st := run_storeM (P := Tryz.prog) (ty := 30) (v := .slice q7 n3 c7) K7.out (by rw [ncells_length HD.out]; omega : 47 < (ncells x { h with q := q3, c := c3, r := q5, d := c5 }).length) wordsM_size rfl rfl
    obtain ⟨hh, hhh⟩ : ∃ hh, hh = (⟨q3, c3, q5, c5, q7, c7⟩ : NHd) := ⟨_, rfl⟩
    have K8 := Lib.hid (show Blk (w7.setCell ⟨g, 47, none⟩ (.slice q7 n3 c7)) g (ncells x hh) 32 from by
      rw [hhh]
      have := K7.out.set 47 (.slice q7 n3 c7)
      rw [ncM_W HD.out { h with q := q3, c := c3, r := q5, d := c5 } n3 N3.out] at this
      exact this)
    have KR8 := Lib.hid (KR7.out.setOther ⟨g, 47, none⟩ (.slice q7 n3 c7) (fun e => HNE.out e.symm))
    have O8 := Lib.hid (rowM_set (i := 47) (u := .slice q7 n3 c7) O7.out K7.out (by decide))
    have P8 := Lib.hid (rowM_set (i := 47) (u := .slice q7 n3 c7) P7.out K7.out (by decide))
    have Q8 := Lib.hid (rowM_set (i := 47) (u := .slice q7 n3 c7) hown7 K7.out (by decide))
    have B8 := Lib.hid (B7.out.setCell (p := ⟨g, 47, none⟩) HGB.out (.slice q7 n3 c7))
    clear hown7 hgr7 hb7' hA7 hx7 HO HA1 hX2 hX3 K7 KR7 B7 K6 KR6 B6 HB7 l3 O6 O7 P6 P7
    obtain ⟨w8, hw8⟩ : ∃ w8, w8 = w7.setCell ⟨g, 47, none⟩ (.slice q7 n3 c7) := ⟨_, rfl⟩
    rw [← hw8] at st K8 KR8 O8 P8 Q8 B8
    clear hw8)
  have HHH := Lib.hid hhh
  clear hhh
  have l8 := load_note HD.out (o := 0) K8.out.range
  have st8 := store_note (x := x) (h := hh) KR8.out nz_len HD.out
  have K9 := Lib.hid (KR8.out.row (ncells x hh))
  have O9 := Lib.hid (rowM_row (c' := (ncells x hh).toArray) O8.out KR8.out (by decide))
  have P9 := Lib.hid (rowM_row (c' := (ncells x hh).toArray) P8.out KR8.out (by decide))
  have Q9 := Lib.hid (rowM_row (c' := (ncells x hh).toArray) Q8.out KR8.out (by decide))
  have B9 := Lib.hid (Below.setRow B8.out HGR.out (ncells x hh).toArray)
  go_wp2_with fail
  clear st l8 st8
  refine bodyPost_ret (v := .agg (ncells x hh).toArray) (results_cell_row rfl _ _ _ _ _ _ _ rfl K9.out (Tryz.underlying32) rfl (note_sizeA HD.out _)) rfl ?_
  obtain rfl := HHH.out
  refine ⟨_, rfl, ⟨?_, ⟨ys, HY1.out, fun y hy => goodM (fun _ => rfl) (HYG.out y hy), ?_⟩, ⟨zs, HZ1.out, fun y hy => goodM (fun _ => rfl) (HZG.out y hy), ?_⟩⟩, B9.out⟩
  · rw [← N1.out]; exact rowM_weak O9.out W2.out
  · rw [← N2.out]; exact rowM_weak P9.out W4.out
  · rw [← N3.out]; exact rowM_weak Q9.out W6.out
end
end Go.Proofs.YtbogjfmefkhglaaGreat
