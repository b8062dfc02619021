/-
  The program's frames: a size, four bytes laid, a head's length, a record's head.
  Going through pieces by their heads' lengths: which come, what has come so far. No function of the program is named here.
  Whole arrays in a walk inside a fence (XArr's and the library's laws, turned): a new variable, a load, a store, a load out of the middle. No program is named here.
  Heads loaded and compared, as one operation each: names that the walk does not open.
-/
import Derived.Test.YteepaoklibflpaaR14
import Derived.Test.YteepaoklibflpaaR13
import Derived.Test.YteepaoklibflpaaR18
import Derived.Test.YteepaoklibflpaaR8
import Derived.OwnWalkIn
import Derived.TacticsInMore
import Derived.Test.YteepaoklibflpaaR9
namespace Go.Proofs.Yteepaoklibflpaa
section
set_option linter.unusedSimpArgs false
set_option linter.unusedVariables false
open Go.RowKit Sha
set_option maxHeartbeats 400000 in
theorem fsize_any (n : Int) (w : World) (h : -9223372036854775808 ≤ n ∧ n ≤ 9223372036854775807) :
    Calls Try.prog 32 #[.int .i64 n] w fun e w' => e = .returned (.int .i64 (fsize n)) ∧ w = w' := by
  obtain ⟨h0, h9⟩ := h
  have HS := Lib.hid (show fsize n = if n < 1 ∨ 4000 < n then 0 else 8 + n from rfl)
  by_cases h1 : n < 1
  · go_enter Try.func32, Try.ntmps32
    go_wp2_with fail
    go_ret
    exact ⟨ret_int (by rw [HS.out, if_pos (.inl h1)]), rfl⟩
  · by_cases h2 : 4000 < n
    · go_enter Try.func32, Try.ntmps32
      go_wp2_with fail
      go_ret
      exact ⟨ret_int (by rw [HS.out, if_pos (.inr h2)]), rfl⟩
    · go_enter Try.func32, Try.ntmps32
      go_wp2_with fail
      go_ret
      exact ⟨ret_int (by rw [HS.out, if_neg (by omega)]), rfl⟩
/-- A block's cells while four bytes are laid into it. -/
def layTo (cs : List Value) (off n : Nat) : Nat → List Value
  | 0 => cs
  | k + 1 => (layTo cs off n k).set (off + k) (v8 ((n / 256 ^ k % 256 : Nat) : Int))
theorem layTo_length (cs : List Value) (off n k : Nat) : (layTo cs off n k).length = cs.length := by
  induction k with
  | zero => rfl
  | succ k ih => simp [layTo, ih]
theorem layTo_step (cs : List Value) (off n k : Nat) (x : Int) (hx : x = ((n / 256 ^ k % 256 : Nat) : Int)) : (layTo cs off n k).set (off + k) (.int .u8 x) = layTo cs off n (k + 1) := by rw [hx]; rfl
def LayDone (B g : Nat) (cs : List Value) (t : TypeId) (w : World) (e : Ending) (w' : World) : Prop := e = .returned (.tuple #[]) ∧ Blk w' g cs t ∧ Below B w w'
set_option maxRecDepth 100000 in
set_option maxHeartbeats 1000000 in
theorem lay_any (B g off cap : Nat) (cs : List Value) (t : TypeId) (n : Nat) (hn : n < 4294967296) (w : World) (hB : B ≤ g) (hb : Blk w g cs t) (hl : off + 4 ≤ cs.length) :
    Calls Try.prog 45 #[.slice (some ⟨g, off, none⟩) 4 cap, .int .u32 n] w (LayDone B g (layTo cs off n 4) t w) := by
  have HB := Lib.hid hb
  clear hb
  go_enter Try.func45, Try.ntmps45
  go_wp2_with fail
  go_loopw [4, 7] (fun _ i wr => ∃ k : Nat, k ≤ 4 ∧ i = .int .i64 k ∧ Hid (Blk wr g (layTo cs off n k) t) ∧ Hid (Below B w wr)) (fun _ i _ => 4 - (intOf i).toNat)
  case atStart => exact ⟨0, by omega, rfl, HB, Lib.hid (Below.refl _ _)⟩
  case round =>
    obtain ⟨k, hk, rfl, HK, HW⟩ := hrel
    by_cases hlt : k < 4
    · have hkl : off + k < (layTo cs off n k).length := by rw [layTo_length]; omega
      have ck : wr.cell? ⟨g, off + k, none⟩ = some ((layTo cs off n k)[off + k]) := by rw [HK.out.cell, List.getElem?_eq_getElem hkl]
      have cf : wr.frozen? ⟨g, off + k, none⟩ = false := HK.out.free _
      have HSET := Lib.hid (fun (x : Int) (hx : x = ((n / 256 ^ k % 256 : Nat) : Int)) => show Blk (wr.setCell ⟨g, off + k, none⟩ (.int .u8 x)) g (layTo cs off n (k + 1)) t ∧ Below B w (wr.setCell ⟨g, off + k, none⟩ (.int .u8 x)) from
        ⟨by rw [← layTo_step cs off n k x hx]; exact HK.out.set _ _, HW.out.setCell (by simp; omega) _⟩)
      generalize (layTo cs off n k)[off + k] = old at ck
      clear hkl
      have hk4 : k = 0 ∨ k = 1 ∨ k = 2 ∨ k = 3 := by omega
      rcases hk4 with rfl | rfl | rfl | rfl
      · rw [Nat.add_zero] at ck cf HSET
        have HS := Lib.hid (HSET.out ((n : Int) % 256) (by omega))
        clear HSET
        go_wp2_with fail
        go_roundw
        case rel => exact ⟨1, by omega, rfl, HS.out⟩
        case measure => simp [intOf]
      · have HS := Lib.hid (HSET.out ((n : Int) / 256 % 256) (by omega))
        clear HSET
        go_wp2_with fail
        go_roundw
        case rel => exact ⟨2, by omega, rfl, HS.out⟩
        case measure => simp [intOf]
      · have HS := Lib.hid (HSET.out ((n : Int) / 65536 % 256) (by omega))
        clear HSET
        go_wp2_with fail
        go_roundw
        case rel => exact ⟨3, by omega, rfl, HS.out⟩
        case measure => simp [intOf]
      · have HS := Lib.hid (HSET.out ((n : Int) / 16777216) (by omega))
        clear HSET
        go_wp2_with fail
        go_roundw
        case rel => exact ⟨4, by omega, rfl, HS.out⟩
        case measure => simp [intOf]
    · obtain rfl : k = 4 := by omega
      go_wp2_with fail
      go_end0
      exact ⟨rfl, HK.out, HW.out⟩
theorem or_add (s : Nat) (x c : Int) (hs : s ≤ 32) (hx : 0 ≤ x ∧ x < 2 ^ s) (hc : 0 ≤ c ∧ c ≤ 255) : bits .or .i64 x (c * 2 ^ s) = x + c * 2 ^ s := by
  obtain ⟨a, rfl⟩ : ∃ a : Nat, x = a := ⟨x.toNat, by omega⟩
  obtain ⟨b, rfl⟩ : ∃ b : Nat, c = b := ⟨c.toNat, by omega⟩
  have ha : a < 2 ^ s := by exact_mod_cast hx.2
  have hp : 2 ^ s ≤ 2 ^ 32 := Nat.pow_le_pow_right (by decide) hs
  have hb : b ≤ 255 := by omega
  have hm : b * 2 ^ s ≤ 255 * 2 ^ 32 := Nat.mul_le_mul hb hp
  have e : (b : Int) * 2 ^ s = ((b * 2 ^ s : Nat) : Int) := by push_cast; rfl
  rw [e]
  show IntKind.i64.wrap ((BitVec.ofInt 64 (a : Int) ||| BitVec.ofInt 64 ((b * 2 ^ s : Nat) : Int)).toNat : Int) = _
  have e2 : (BitVec.ofInt 64 (a : Int) ||| BitVec.ofInt 64 ((b * 2 ^ s : Nat) : Int)).toNat = a + b * 2 ^ s := by
    rw [BitVec.toNat_or, BitVec.ofInt_natCast, BitVec.ofInt_natCast, BitVec.toNat_ofNat, BitVec.toNat_ofNat, Nat.mod_eq_of_lt (by omega), Nat.mod_eq_of_lt (by omega), Nat.or_comm, Nat.mul_comm b, ← Nat.two_pow_add_eq_or_of_lt ha, Nat.add_comm]
  rw [e2]
  rw [IntWalk.i64_in _ (by omega)]
  push_cast; rfl
/-- A length's bytes, read so far. -/
def lenTo (a b c d : Int) : Nat → Int
  | 0 => 0
  | 1 => a
  | 2 => a + b * 256
  | 3 => a + b * 256 + c * 65536
  | _ => a + b * 256 + c * 65536 + d * 16777216
set_option maxRecDepth 100000 in
set_option maxHeartbeats 1000000 in
theorem hlength_any (l : List Int) (hl : l.length = 8) (hb : ∀ n ∈ l, 0 ≤ n ∧ n ≤ 255) (w : World) :
    Calls Try.prog 44 #[.agg (l.map v8).toArray] w fun e w' => e = .returned (.int .i64 (Crc.leN (l.take 4) : Nat)) ∧ w' = w.alloc (.cells (l.map v8).toArray 72) := by
  obtain ⟨a, b, c, d, rest, hz⟩ := four_heads (zs := l) (by omega)
  have ba := hb a (by rw [hz]; simp)
  have bb := hb b (by rw [hz]; simp)
  have bc := hb c (by rw [hz]; simp)
  have bd := hb d (by rw [hz]; simp)
  have hr : a + b * 256 + c * 65536 + d * 16777216 = ((Crc.leN (l.take 4) : Nat) : Int) := by rw [hz]; simp only [List.take_succ_cons, List.take_zero, Crc.leN]; omega
  have HR := Lib.hid hr
  have HBK := Lib.hid (Blk.new w (l.map v8).toArray 72)
  have HZ := Lib.hid hz
  clear hr hb hz hl
  go_enter Try.func44, Try.ntmps44
  go_wp2_with (refine wpList_box_arr rfl 72 _ rfl _ rfl ?_)
  obtain ⟨w1, hw1⟩ : ∃ w1, w1 = w.alloc (.cells (l.map v8).toArray 72) := ⟨_, rfl⟩
  rw [← hw1] at HBK ⊢
  have c0 : w1.cell? ⟨w.heap.size, 0, none⟩ = some (v8 a) := by rw [HBK.out.cell, HZ.out]; rfl
  have c1 : w1.cell? ⟨w.heap.size, 1, none⟩ = some (v8 b) := by rw [HBK.out.cell, HZ.out]; rfl
  have c2 : w1.cell? ⟨w.heap.size, 2, none⟩ = some (v8 c) := by rw [HBK.out.cell, HZ.out]; rfl
  have c3 : w1.cell? ⟨w.heap.size, 3, none⟩ = some (v8 d) := by rw [HBK.out.cell, HZ.out]; rfl
  have HW1 := Lib.hid hw1
  clear hw1 HBK HZ
  go_loop [3, 8] (fun v i => ∃ k : Nat, k ≤ 4 ∧ i = .int .i64 k ∧ v = .int .i64 (lenTo a b c d k)) (fun _ i => 4 - (intOf i).toNat)
  case atStart => exact ⟨0, by omega, rfl, rfl⟩
  case round =>
    obtain ⟨k, hk, rfl, rfl⟩ := hrel
    by_cases hlt : k < 4
    · have hk4 : k = 0 ∨ k = 1 ∨ k = 2 ∨ k = 3 := by omega
      rcases hk4 with rfl | rfl | rfl | rfl
      · unfold lenTo
        go_wp2_with fail
        go_round
        case rel => exact ⟨1, by omega, rfl, congrArg _ (by have h := or_add 0 0 a (by omega) (by omega) ba; simpa using h)⟩
        case measure => simp [intOf]
      · unfold lenTo
        go_wp2_with fail
        go_round
        case rel => exact ⟨2, by omega, rfl, congrArg _ (by have h := or_add 8 a b (by omega) (by omega) bb; exact h)⟩
        case measure => simp [intOf]
      · unfold lenTo
        go_wp2_with fail
        go_round
        case rel => exact ⟨3, by omega, rfl, congrArg _ (by have h := or_add 16 (a + b * 256) c (by omega) (by omega) bc; exact h)⟩
        case measure => simp [intOf]
      · unfold lenTo
        go_wp2_with fail
        go_round
        case rel => exact ⟨4, by omega, rfl, congrArg _ (by have h := or_add 24 (a + b * 256 + c * 65536) d (by omega) (by omega) bd; exact h)⟩
        case measure => simp [intOf]
    · obtain rfl : k = 4 := by omega
      unfold lenTo
      go_wp2_with fail
      go_ret
      exact ⟨ret_int HR.out, HW1.out⟩
theorem infoHead : (Try.prog.info? 72).map (fun i => i.zero) = some (some (.agg #[v8 0, v8 0, v8 0, v8 0, v8 0, v8 0, v8 0, v8 0])) := by kernel_rfl
theorem sizeHead : (Try.prog.info? 72).map (fun i => i.size) = some 8 := by kernel_rfl
theorem laid8 (n s : Nat) : layTo (layTo [v8 0, v8 0, v8 0, v8 0, v8 0, v8 0, v8 0, v8 0] 0 n 4) 4 s 4 = (Frm.le4 n ++ Frm.le4 s).map v8 := by
  simp [layTo, Frm.le4]
/-- The head that a record has to have. -/
def hd (b : List Int) : List Int := Frm.le4 b.length ++ Frm.le4 (Frm.sumN b)
theorem hd_length (b : List Int) : (hd b).length = 8 := by simp [hd, Frm.le4_length]
def HeadDone (zs : List Int) (w : World) (e : Ending) (w' : World) : Prop := e = .returned (.agg ((hd zs).map v8).toArray) ∧ Below w.heap.size w w'
set_option maxRecDepth 100000 in
set_option maxHeartbeats 1000000 in
theorem headOf_any (zs : List Int) (n : Nat) (p : Option Addr) (cap : Nat) (w : World) (hn : zs.length = n) (h : GoodS w (zs, p, cap)) (hs : n ≤ 4000) :
    Calls Try.prog 30 #[.slice p n cap] w (HeadDone zs w) := by
  have G := Lib.hid h
  have HN := Lib.hid hn
  have hm := h.max
  have hc : n ≤ cap := by rw [← hn]; exact h.le
  simp only at hm
  have HLT := Lib.hid (Frm.sumN_lt zs)
  obtain ⟨sn, hsn⟩ : ∃ s, s = Frm.sumN zs := ⟨_, rfl⟩
  have HSN := Lib.hid (show v32 (Crc.sum zs) = .int .u32 sn by rw [hsn]; rfl)
  rw [← hsn] at HLT
  have HHD := Lib.hid (show hd zs = Frm.le4 n ++ Frm.le4 sn by unfold hd; rw [hsn, hn])
  clear h hn hsn
  go_enter Try.func30, Try.ntmps30
  go_wp2_with (refine wpList_alloc_arr rfl 72 rfl _ infoHead ?_)
  have b2 := ((Below.refl w.heap.size w).alloc (by simp) (Obj.cells #[v8 0, v8 0, v8 0, v8 0, v8 0, v8 0, v8 0, v8 0] 72)).alloc (by simp) (Obj.cells #[v8 0, v8 0, v8 0, v8 0, v8 0, v8 0, v8 0, v8 0] 72)
  have k0 := (Blk.new w #[v8 0, v8 0, v8 0, v8 0, v8 0, v8 0, v8 0, v8 0] 72).old (Obj.cells #[v8 0, v8 0, v8 0, v8 0, v8 0, v8 0, v8 0, v8 0] 72)
  have k1 := Blk.new (w.alloc (Obj.cells #[v8 0, v8 0, v8 0, v8 0, v8 0, v8 0, v8 0, v8 0] 72)) #[v8 0, v8 0, v8 0, v8 0, v8 0, v8 0, v8 0, v8 0] 72
  generalize (w.alloc (Obj.cells #[v8 0, v8 0, v8 0, v8 0, v8 0, v8 0, v8 0, v8 0] 72)).alloc (Obj.cells #[v8 0, v8 0, v8 0, v8 0, v8 0, v8 0, v8 0, v8 0] 72) = w2 at *
  simp only [World.size_alloc] at k0 k1
  refine (lay_any (w.heap.size + 1) (w.heap.size + 1) 0 8 _ 72 n (by omega) w2 (Nat.le_refl _) k1 (by simp)).mono ?_
  rintro e w3 ⟨rfl, hk3, hb3⟩
  have K0 := Lib.hid (k0.below hb3 (by omega))
  have K3 := Lib.hid hk3
  have B3 := Lib.hid (b2.trans (hb3.mono (by omega)))
  clear b2 k0 k1 hk3 hb3
  go_wp2_with fail
  go_region_law (first
    | (go_simp; go_at_call 46; refine (csum_any zs n p cap w3.drew HN.out.symm G.out.bytes (G.out.at_.below B3.out.drew) hc hm).mono ?_; rw [HSN.out]; rintro e w4 ⟨rfl, hb4⟩; have K0' := Lib.hid (K0.out.drew.below hb4 K0.out.lt); have K4 := Lib.hid (K3.out.drew.below hb4 K3.out.lt); have B4 := Lib.hid (B3.out.drew.trans (hb4.mono B3.out.size)); clear hb4; have tk1 : True := trivial)
    | (have _t := tk1; go_simp; go_at_call 45; clear tk1 _t; refine (lay_any (w.heap.size + 1) (w.heap.size + 1) 4 4 _ 72 sn HLT.out w4 (Nat.le_refl _) K4.out (by rw [layTo_length]; simp)).mono ?_; rintro e w5 ⟨rfl, hk5, hb5⟩; rw [laid8] at hk5; have K05 := Lib.hid (K0'.out.below hb5 (by omega)); have K5 := Lib.hid hk5; have B5 := Lib.hid (B4.out.trans (hb5.mono (by omega))); clear hk5 hb5))
  all_goals
    have hsz : (Try.prog.info? 72).map (fun i => i.size) = some ((Frm.le4 n ++ Frm.le4 sn).map v8).toArray.size := by rw [sizeHead]; simp [Frm.le4_length]
    have hsz0 : (Try.prog.info? 72).map (fun i => i.size) = some [v8 0, v8 0, v8 0, v8 0, v8 0, v8 0, v8 0, v8 0].toArray.size := by rw [sizeHead]; rfl
    go_wp2_with (first
      | (refine wpList_load_row rfl 72 _ rfl _ rfl _ _ _ _ K5.out (Try.underlying72) rfl hsz ?_)
      | (refine wpList_store_row rfl 72 _ _ rfl _ _ rfl rfl _ _ K05.out hsz0 (by simp [Frm.le4_length]) (by simp [Value.oneCell']) ?_))
    refine bodyPost_ret (v := .agg ((Frm.le4 n ++ Frm.le4 sn).map v8).toArray) ?_ rfl ⟨by rw [HHD.out], Below.setRow B5.out (by omega) _⟩
    exact results_cell_row rfl _ _ _ _ _ _ _ rfl (K05.out.row _) (Try.underlying72) rfl hsz
end
section
set_option linter.unusedSimpArgs false
set_option linter.unusedVariables false
open Go.RowKit Sha
/-- A head, and a record, as they come: good in the world in which the going began. -/
abbrev Piece := List Int × SHdr
abbrev Comes (w0 : World) := { y : Piece // y.1.length = 8 ∧ GoodS w0 y.2 ∧ 1 ≤ y.2.1.length ∧ y.2.1.length ≤ 4000 }
def encsP {w0 : World} (y : Comes w0) : Array Value := #[.agg (y.1.1.map v8).toArray, cellS y.1.2]
/-- What comes, one by one, from the bytes' beginning on, and where one stands behind it. -/
inductive Going (zs : List Int) : List Piece → Nat → Prop
  | nil : Going zs [] 0
  | snoc {pre : List Piece} {k : Nat} (y : Piece) (m : Nat) : Going zs pre k → m = Crc.leN ((zs.drop k).take 4) → 1 ≤ m → m ≤ 4000 → 8 + m ≤ (zs.drop k).length → y.1 = (zs.drop k).take 8 → y.2.1 = ((zs.drop k).drop 8).take m → Going zs (pre ++ [y]) (k + 8 + m)
theorem take8 (l : List Int) : l.take 8 = l.take 4 ++ (l.drop 4).take 4 := by
  conv => lhs; rw [show (8 : Nat) = 4 + 4 from rfl, List.take_add]
/-- Whether a frame stands there: its head is its record's. -/
theorem stands_hd (l : List Int) (hb : Frm.Bytes l) (m : Nat) (hm : m = Crc.leN (l.take 4)) (h1 : 1 ≤ m) (h4 : m ≤ 4000) (hl : 8 + m ≤ l.length) :
    Frm.stands l = if l.take 8 = hd ((l.drop 8).take m) then (l.drop 8).take m else [] := by
  rw [stands_in (by omega) hm (by omega)]
  have hrl : ((l.drop 8).take m).length = m := by rw [List.length_take, List.length_drop]; omega
  have e4 : Frm.le4 m = l.take 4 := by rw [hm]; exact Frm.le4_leN _ (hb.take 4) (by rw [List.length_take]; omega)
  have e8 : (l.take 8 = hd ((l.drop 8).take m)) ↔ (Frm.sumN ((l.drop 8).take m) = Crc.leN ((l.drop 4).take 4)) := by
    unfold hd
    rw [hrl, e4, take8]
    constructor
    · intro h
      have := List.append_cancel_left h
      rw [this, Frm.leN_le4 _ (Frm.sumN_lt _)]
    · intro h
      rw [h, Frm.le4_leN _ ((hb.drop 4).take 4) (by rw [List.length_take, List.length_drop]; omega)]
  by_cases h : Frm.sumN ((l.drop 8).take m) = Crc.leN ((l.drop 4).take 4)
  · rw [if_pos h, if_pos (e8.2 h)]
  · rw [if_neg h, if_neg fun e => h (e8.1 e)]
/-- How far one has come. -/
def farOf (pre : List Piece) : Nat := (pre.map fun y => 8 + y.2.1.length).sum
theorem farOf_snoc (pre : List Piece) (y : Piece) : farOf (pre ++ [y]) = farOf pre + (8 + y.2.1.length) := by simp [farOf]
theorem Going.far {zs : List Int} {pre : List Piece} {k : Nat} (h : Going zs pre k) : k = farOf pre := by
  induction h with
  | nil => rfl
  | @snoc pre k y m h1 h2 h3 h4 h5 h6 h7 ih =>
    have hl : y.2.1.length = m := by rw [h7, List.length_take, List.length_drop]; omega
    rw [farOf_snoc, hl, ← ih]; omega
theorem Going.le {zs : List Int} {pre : List Piece} {k : Nat} (h : Going zs pre k) : 9 * pre.length ≤ k ∧ k ≤ zs.length := by
  induction h with
  | nil => simp
  | @snoc pre k y m h1 h2 h3 h4 h5 h6 h7 ih =>
    rw [List.length_drop] at h5
    rw [List.length_append]
    simp; omega
theorem Going.split {zs : List Int} (hb : Frm.Bytes zs) {pre : List Piece} {k : Nat} (h : Going zs pre k) : (∀ y ∈ pre, y.1 = hd y.2.1) → Frm.split zs = (pre.map (·.2.1) ++ (Frm.split (zs.drop k)).1, k + (Frm.split (zs.drop k)).2) := by
  induction h with
  | nil => intro _; simp
  | @snoc pre k y m h1 h2 h3 h4 h5 h6 h7 ih =>
    intro hn
    have hy := hn y (by simp)
    have hl : y.2.1.length = m := by rw [h7, List.length_take, List.length_drop]; omega
    have hs : Frm.stands (zs.drop k) = y.2.1 := by
      rw [stands_hd _ (hb.drop k) m h2 h3 h4 h5, ← h7, ← h6, if_pos hy]
    have := split_go (ih fun z hz => hn z (by simp [hz])) (by rw [hs]; intro e; rw [e] at hl; simp at hl; omega)
    rw [hs, hl] at this
    rw [this]; simp
theorem Going.last {zs : List Int} (hb : Frm.Bytes zs) {pre : List Piece} {y : Piece} {k : Nat} (h : Going zs (pre ++ [y]) k) (hy : y.1 ≠ hd y.2.1) : ∃ k0, Going zs pre k0 ∧ Frm.stands (zs.drop k0) = [] := by
  generalize hq : pre ++ [y] = q at h
  cases h with
  | nil => simp at hq
  | @snoc p0 k0 z m h1 h2 h3 h4 h5 h6 h7 =>
    obtain ⟨rfl, e⟩ := List.append_inj' hq rfl
    cases e
    exact ⟨k0, h1, by rw [stands_hd _ (hb.drop k0) m h2 h3 h4 h5, ← h7, ← h6, if_neg hy]⟩
end
section
set_option linter.unusedSimpArgs false
set_option linter.unusedVariables false
variable {F : Fence} {m : Nat} {P : Program} {ops : Array Oper} {Q : Exit → Act → World → Prop} {a : Act} {w : World} {rest : List Oper} {o : Oper} {K : Act → World → Prop}
theorem wpIn_value {v : Value} {w' : World} (hab : o.about P w a.eval = none) (hnd : ∀ c, o.op ≠ .defer c) (hr : (execOp a.eval o).run P w = .ok (.value v) w') (h : K (a.put o.dst v) w') : o.wpIn F m P a w K Q := by
  unfold Oper.wpIn
  refine ⟨(fun f e => by rw [hab] at e; cases e), ?_⟩
  rw [Oper.semAt_plain F _ _ hnd, hr]; exact h
theorem wpIn_skip {w' : World} (hab : o.about P w a.eval = none) (hnd : ∀ c, o.op ≠ .defer c) (hr : (execOp a.eval o).run P w = .ok .skip w') (h : K (a.put o.dst undef) w') : o.wpIn F m P a w K Q := by
  unfold Oper.wpIn
  refine ⟨(fun f e => by rw [hab] at e; cases e), ?_⟩
  rw [Oper.semAt_plain F _ _ hnd, hr]; exact h
theorem wpListIn_alloc_arr (hgd : o.guard = none) (ty : TypeId) (ho : o.op = .alloc ty) (cs : Array Value) (hz : (P.info? ty).map (fun i => i.zero) = some (some (.agg cs)))
    (h : wpListIn F m P ops Q rest (a.put o.dst (.pointer (some ⟨w.heap.size, 0, none⟩))) (w.alloc (.cells cs ty))) : wpListIn F m P ops Q (o :: rest) a w := by
  have hz' : (zeroValue ty).run P w = .ok (.agg cs) w := by
    cases hq : P.info? ty with
    | none => simp [hq] at hz
    | some i => simp [hq] at hz; simp [zeroValue, typeInfo, hq, hz]
  exact wpListIn_plain hgd fun K hK => wpIn_value (by simp [Oper.about, ho]) (by rw [ho]; intro c hc; cases hc) (by unfold execOp; simp only [ho, Instr.alloc, Sem.run_bind, hz', Result.andThen_ok, Sem.run_pure]; rfl) (hK _ _ h)
theorem wpListIn_load_row (hgd : o.guard = none) (ty : TypeId) (x : Operand) (ho : o.op = .load ty x)
    (g : Nat) (hx : a.eval x = .pointer (some ⟨g, 0, none⟩)) (t : TypeId) (cs : Array Value) (fr : Nat × Nat) (d : TypeDesc) (hg : w.heap[g]? = some (.cells cs t fr))
    (hu : P.underlying ty = some d) (hd : (match d with | .struct _ | .array _ _ => true | _ => false) = true) (hi : (P.info? ty).map (·.size) = some cs.size)
    (h : wpListIn F m P ops Q rest (a.put o.dst (.agg cs)) w) : wpListIn F m P ops Q (o :: rest) a w :=
  wpListIn_plain hgd fun K hK => wpIn_value (by simp [Oper.about, ho]) (by rw [ho]; intro c hc; cases hc) (by unfold execOp; simp only [ho, hx, Instr.loadAt, Instr.sureAddr, Sem.run_bind, Sem.run_pure, Result.andThen_ok, run_loadVar_row w g t ty cs fr d hg hu hd hi]) (hK _ _ h)
theorem wpListIn_load_mid (hgd : o.guard = none) (ty : TypeId) (x : Operand) (ho : o.op = .load ty x) (b off : Nat) (hx : a.eval x = .pointer (some ⟨b, off, none⟩)) (cs : List Value) (d : TypeDesc) (hC : w.rangeAt b off cs)
    (hu : P.underlying ty = some d) (hd : d.isRow = true) (hi : (P.info? ty).map (·.size) = some cs.length) (h : wpListIn F m P ops Q rest (a.put o.dst (.agg cs.toArray)) w) : wpListIn F m P ops Q (o :: rest) a w :=
  wpListIn_plain hgd fun K hK => wpIn_value (by simp [Oper.about, ho]) (by rw [ho]; intro c hc; cases hc) (by unfold execOp; simp only [ho, hx, Instr.loadAt, Instr.sureAddr, Sem.run_bind, Sem.run_pure, Result.andThen_ok, run_loadVar_mid w b off ty cs d hC hu hd hi]) (hK _ _ h)
theorem wpListIn_store_row (hgd : o.guard = none) (ty : TypeId) (x y : Operand) (ho : o.op = .store ty x y)
    (g : Nat) (cells : Array Value) (hx : a.eval x = .pointer (some ⟨g, 0, none⟩)) (hy : a.eval y = .agg cells)
    (t : TypeId) (old : Array Value) (hg : w.heap[g]? = some (.cells old t (0, 0))) (hi : (P.info? ty).map (·.size) = some cells.size)
    (hold : old.size = cells.size) (h1 : cells.all (·.oneCell') = true)
    (h : wpListIn F m P ops Q rest (a.put o.dst undef) (w.setRow g cells)) : wpListIn F m P ops Q (o :: rest) a w :=
  wpListIn_plain hgd fun K hK => wpIn_skip (by simp [Oper.about, ho]) (by rw [ho]; intro c hc; cases hc) (by unfold execOp; simp only [ho, hx, hy, Instr.storeAt, Instr.sureAddr, Sem.run_bind, Sem.run_pure, Result.andThen_ok, run_storeVar_row w g t ty old cells hg hi hold h1]) (hK _ _ h)
theorem wpListIn_array (hgd : o.guard = none) (t : TypeId) (x : Operand) (ho : o.op = .sliceToArrayPointer t x) (e : TypeId) (n : Nat) (p : Option Addr) (len cap : Nat) (hu : P.underlying t = some (.array n e)) (hn : n ≤ len)
    (hx : a.eval x = .slice p len cap) (h : wpListIn F m P ops Q rest (a.put o.dst (.pointer p)) w) : wpListIn F m P ops Q (o :: rest) a w :=
  wpListIn_plain hgd fun K hK => wpIn_value (by simp [Oper.about, ho]) (by rw [ho]; intro c hc; cases hc) (by unfold execOp; simp only [ho, hx, Sem.run_bind, run_arrayAt w t e n p len cap hu hn, Result.andThen_ok, Sem.run_pure]) (hK _ _ h)
end
section
set_option linter.unusedSimpArgs false
set_option linter.unusedVariables false
open Go.RowKit Sha
@[irreducible] def hloadOp (t : TypeId) (v : Value) : Sem Next := do pure (.value (← Instr.loadAt t v))
@[irreducible] def hneqOp (t : TypeId) (x y : Operand) (u v : Value) : Sem Next := do pure (.value (← (do eqGuard .neq t x y u v; binOp .neq t u v)))
theorem execOp_loadHead (ρ : Operand → Value) (dst : Option Tmp) (x : Operand) (ty : TypeId) (pos : String) (after : Array Edge) (guard : Option (Nat × Bool)) :
    execOp ρ { dst := dst, op := .load 72 x, type := ty, pos := pos, after := after, guard := guard } = hloadOp 72 (ρ x) := by unfold hloadOp; rfl
theorem execOp_neqHead (ρ : Operand → Value) (dst : Option Tmp) (x y : Operand) (ty r : TypeId) (pos : String) (after : Array Edge) (guard : Option (Nat × Bool)) :
    execOp ρ { dst := dst, op := .binOp .neq 72 x y r, type := ty, pos := pos, after := after, guard := guard } = hneqOp 72 x y (ρ x) (ρ y) := by unfold hneqOp; rfl
theorem run_neqHead (x y : Operand) (xs ys : List Int) (hx : xs.length = 8) (hy : ys.length = 8) (w : World) : (hneqOp 72 x y (.agg (xs.map v8).toArray) (.agg (ys.map v8).toArray)).run Try.prog w = .ok (.value (.bool (!decide (xs = ys)))) w := by
  have h := run_neq_arr (P := Try.prog) w x y 72 5 8 .u8 Try.underlying72 Try.underlying5 kslice1 xs ys hx hy
  unfold hneqOp
  rw [Sem.run_bind, h]
  simp only [Result.andThen_ok, Sem.run_pure]
theorem load_head {w : World} {g : Nat} {z : List Int} {t : TypeId} (hz : z.length = 8) (h : Blk w g (z.map v8) t) : (hloadOp 72 (.pointer (some ⟨g, 0, none⟩))).run Try.prog w = .ok (.value (.agg (z.map v8).toArray)) w := by
  unfold hloadOp
  simp only [Instr.loadAt, Instr.sureAddr, Sem.run_bind, Sem.run_pure, Result.andThen_ok, run_loadVar_row w g t 72 _ (0, 0) _ h Try.underlying72 rfl (by rw [sizeHead]; simp [hz])]
end
end Go.Proofs.Yteepaoklibflpaa
