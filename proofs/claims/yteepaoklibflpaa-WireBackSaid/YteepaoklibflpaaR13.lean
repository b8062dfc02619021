/-
  Slices of slices of bytes in memory: what came in, what the call itself made.
  The law package of frames: Long, same, copied.
  The contracts of bitOn, byteOn and byteTable.
  The reference's on, More, Sum.
  The reference of frames: four, number, Size, Put, Join.
  The reference of frames: stands, Split.
  The kit's OverBytes, on a slice of the call's own.
-/
import Derived.Test.YteepaoklibflpaaR9
import Derived.Test.YteepaoklibflpaaR11
import Derived.WalkSpells
import Derived.IntWalk
import Derived.WalkLawsBesides
import Derived.Test.YteepaoklibflpaaRows
import Derived.Test.YteepaoklibflpaaR4
import Derived.Test.YteepaoklibflpaaR8
import Derived.Test.YteepaoklibflpaaR5
import Derived.Deep.QuietTactic
import Derived.BigQuiet
namespace Go.Proofs.Yteepaoklibflpaa
section
set_option linter.unusedSimpArgs false
set_option linter.unusedVariables false
open Go.RowKit Sha
/-- A record, where its bytes lie, how much room they have. -/
abbrev SHdr := List Int × Option Addr × Nat
def cellS (y : SHdr) : Value := .slice y.2.1 y.1.length y.2.2
theorem cellS_one (y : SHdr) : (cellS y).oneCell' = true := rfl
structure GoodS (w : World) (y : SHdr) : Prop where
  bytes : ∀ n ∈ y.1, 0 ≤ n ∧ n ≤ 255
  at_ : At w y.2.1 (y.1.map v8)
  le : y.1.length ≤ y.2.2
  max : y.2.2 ≤ 9223372036854775807
  nil : y.2.1 = none → y.2.2 = 0
theorem GoodS.below {w w' : World} {y : SHdr} (h : GoodS w y) (hb : Below w.heap.size w w') : GoodS w' y := ⟨h.bytes, h.at_.below hb, h.le, h.max, h.nil⟩
/-- Records that came in, or are told: a slice of slices that reads as they are. -/
structure Recs (w : World) (p : Option Addr) (n c : Nat) (l : List (List Int)) : Prop where
  len : n = l.length
  le : n ≤ c
  max : c ≤ 9223372036854775807
  nil : p = none → c = 0
  recs : ∃ ys : List SHdr, ys.map (·.1) = l ∧ At w p (ys.map cellS) ∧ ∀ y ∈ ys, GoodS w y
theorem Recs.below {w w' : World} {p : Option Addr} {n c : Nat} {l : List (List Int)} (h : Recs w p n c l) (hb : Below w.heap.size w w') : Recs w' p n c l :=
  ⟨h.len, h.le, h.max, h.nil, by obtain ⟨ys, h1, h2, h3⟩ := h.recs; exact ⟨ys, h1, h2.below hb, fun y hy => (h3 y hy).below hb⟩⟩
theorem Recs.none_ (w : World) : Recs w none 0 0 [] := ⟨rfl, by omega, by omega, fun _ => rfl, [], rfl, At.nil _ _, by simp⟩
theorem Recs.bytes {w : World} {p : Option Addr} {n c : Nat} {l : List (List Int)} (h : Recs w p n c l) : ∀ b ∈ l, ∀ n ∈ b, 0 ≤ n ∧ n ≤ 255 := by
  obtain ⟨ys, rfl, _, h3⟩ := h.recs
  intro b hb
  obtain ⟨y, hy, rfl⟩ := List.mem_map.1 hb
  exact (h3 y hy).bytes
/-- The i-th record. -/
theorem Recs.get {w : World} {p : Option Addr} {n c : Nat} {l : List (List Int)} (h : Recs w p n c l) (i : Nat) (hi : i < l.length) :
    ∃ b off q d, p = some ⟨b, off, none⟩ ∧ w.cell? ⟨b, off + i, none⟩ = some (.slice q l[i].length d) ∧ GoodS w (l[i], q, d) := by
  obtain ⟨ys, rfl, h2, h3⟩ := h.recs
  rw [List.length_map] at hi
  obtain ⟨b, off, rfl, hc⟩ := h2.addr (by rw [List.length_map]; omega)
  refine ⟨b, off, (ys[i]).2.1, (ys[i]).2.2, rfl, ?_, ?_⟩
  · rw [hc i (cellS ys[i]) (by rw [List.getElem?_map, List.getElem?_eq_getElem hi]; rfl)]
    simp [cellS]
  · simpa using h3 ys[i] (List.getElem_mem hi)
/-- The first ones. -/
theorem Recs.take {w : World} {p : Option Addr} {n c : Nat} {l : List (List Int)} (h : Recs w p n c l) (k : Nat) (hk : k ≤ n) : Recs w p k c (l.take k) := by
  obtain ⟨ys, h1, h2, h3⟩ := h.recs
  refine ⟨by rw [List.length_take, ← h.len]; omega, by have := h.le; omega, h.max, h.nil, ys.take k, by rw [List.map_take, h1], ?_, fun y hy => h3 y (List.mem_of_mem_take hy)⟩
  rw [List.map_take]
  have e : ys.map cellS = (ys.map cellS).take k ++ (ys.map cellS).drop k := (List.take_append_drop ..).symm
  rw [e] at h2
  exact h2.front
/-! ### A slice of slices that the call itself makes -/
/-- A record of the call's own. -/
structure RecO (B : Nat) (w : World) (y : SHdr) : Prop where
  bytes : ∀ n ∈ y.1, 0 ≤ n ∧ n ≤ 255
  own : w.ownsRow B 5 1 (cellS y) y.1.length (y.1.map v8)
theorem RecO.good {B : Nat} {w : World} {y : SHdr} (h : RecO B w y) : GoodS w y := by
  obtain ⟨p, cap, hv, hl, hm, hA, hx, hn⟩ := own_at h.own
  unfold cellS at hv
  cases hv
  exact ⟨h.bytes, hA, hl, by unfold maxLen at hm; omega, hn⟩
theorem RecO.carry {B : Nat} {w w' : World} {y : SHdr} (h : RecO B w y) (hc : ∀ (k : Nat) (c : Array Value) (fz : Nat × Nat), w.heap[k]? = some (Obj.cells c 5 fz) → w'.heap[k]? = some (Obj.cells c 5 fz)) : RecO B w' y := by
  refine ⟨h.bytes, h.own.1, ?_⟩
  rcases h.own.2 with h | ⟨g, cap, cur, hv, hg, hh, h4⟩
  · exact Or.inl h
  · exact Or.inr ⟨g, cap, cur, hv, hg, hc g _ _ hh, h4⟩
structure OwnS (B : Nat) (w : World) (v : Value) (ys : List SHdr) : Prop where
  own : w.ownsRow B 28 1 v ys.length (ys.map cellS)
  good : ∀ y ∈ ys, RecO B w y
theorem OwnS.nil (B : Nat) (w : World) : OwnS B w (.slice none 0 0) [] := ⟨World.ownsRow_nil _ _ _ _, by simp⟩
theorem slice_info : (Try.prog.info? 28).map (fun i => (i.zero, i.size, i.bytes)) = some (some (.slice none 0 0), 1, 24) := by kernel_rfl
theorem us_ne : (5 : TypeId) ≠ 28 := by decide
theorem OwnS.on {B : Nat} {w w' : World} {v : Value} {ys : List SHdr} (h : OwnS B w v ys) (hb : Below w.heap.size w w') : OwnS B w' v ys := by
  refine ⟨⟨h.own.1, ?_⟩, fun y hy => (h.good y hy).carry fun k c fz hh => ?_⟩
  · rcases h.own.2 with h' | ⟨g, cap, cur, hv, hg, hh, h4⟩
    · exact Or.inl h'
    · exact Or.inr ⟨g, cap, cur, hv, hg, by rw [hb.block g (h.own.lt g (by rw [hv]; rfl)).2]; exact hh, h4⟩
  · have hk : k < w.heap.size := (Array.getElem?_eq_some_iff.1 hh).1
    rw [hb.block k hk]; exact hh
/-- One more behind them: what append leaves. -/
theorem OwnS.snoc {B : Nat} {w w' : World} {v v' : Value} {ys : List SHdr} {y : SHdr} {o : Obj} (h : OwnS B w v ys) (hy : RecO B w y) (hg : (w.alloc o).grownBy w' v.ownBlock) (hown : w'.ownsRow B 28 1 v' (ys.length + 1) (ys.map cellS ++ [cellS y])) : OwnS B w' v' (ys ++ [y]) := by
  have hc : ∀ (k : Nat) (c : Array Value) (fz : Nat × Nat), w.heap[k]? = some (Obj.cells c 5 fz) → w'.heap[k]? = some (Obj.cells c 5 fz) := by
    intro k c fz hh
    have hk : k < w.heap.size := (Array.getElem?_eq_some_iff.1 hh).1
    have hne : some k ≠ v.ownBlock := by
      intro e
      rcases h.own.2 with ⟨hv, _⟩ | ⟨g, cap, cur, hv, _, hh', _⟩
      · rw [hv] at e; cases e
      · rw [hv] at e
        cases e
        rw [hh'] at hh
        injection hh with hh; injection hh with _ ht
        exact us_ne ht.symm
    rw [hg.block k (by simp; omega) hne, (World.grownBy_alloc w o none).block k hk (by simp)]
    exact hh
  refine ⟨by simpa using hown, fun z hz => ?_⟩
  rcases List.mem_append.1 hz with hz | hz
  · exact (h.good z hz).carry hc
  · rw [List.mem_singleton.1 hz]; exact hy.carry hc
theorem own_weak {w : World} {B B' n size : Nat} {e : TypeId} {v : Value} {xs : List Value} (h : w.ownsRow B e size v n xs) (hb : B' ≤ B) : w.ownsRow B' e size v n xs := by
  refine ⟨h.1, ?_⟩
  rcases h.2 with h | ⟨g, cap, cur, hv, hg, hh⟩
  · exact Or.inl h
  · exact Or.inr ⟨g, cap, cur, hv, Nat.le_trans hb hg, hh⟩
/-- Under an append to bytes of another's that are new. -/
theorem OwnS.grown8 {B n c : Nat} {w w' : World} {v : Value} {ys : List SHdr} {o : Obj} (h : OwnS B w v ys) (hg : (w.alloc o).grownBy w' (Value.ownBlock (.slice (some ⟨w.heap.size, 0, none⟩) n c))) : OwnS B w' v ys := by
  have hk : ∀ k, k < w.heap.size → w'.heap[k]? = w.heap[k]? := fun k hk => by
    rw [hg.block k (by simp; omega) (by simp [Value.ownBlock]; omega), (World.grownBy_alloc w o none).block k hk (by simp)]
  refine ⟨⟨h.own.1, ?_⟩, fun y hy => (h.good y hy).carry fun k c fz hh => ?_⟩
  · rcases h.own.2 with h' | ⟨g, cap, cur, hv, hg', hh, h4⟩
    · exact Or.inl h'
    · exact Or.inr ⟨g, cap, cur, hv, hg', by rw [hk g (h.own.lt g (by rw [hv]; rfl)).2]; exact hh, h4⟩
  · rw [hk k (Array.getElem?_eq_some_iff.1 hh).1]; exact hh
theorem OwnS.told {B : Nat} {w : World} {v : Value} {ys : List SHdr} (h : OwnS B w v ys) : ∃ q c, v = .slice q ys.length c ∧ Recs w q ys.length c (ys.map (·.1)) := by
  obtain ⟨p, cap, hv, hl, hm, hA, hx, hn⟩ := own_at h.own
  exact ⟨p, cap, hv, by simp, hl, by unfold maxLen at hm; omega, hn, ys, rfl, hA, fun y hy => (h.good y hy).good⟩
end
section
set_option linter.unusedSimpArgs false
set_option linter.unusedVariables false
open Go.RowKit Sha
def LongDone (l : List (List Int)) (w : World) (e : Ending) (w' : World) : Prop := ∃ b : Bool, e = .returned (.bool b) ∧ (b = false → l.length ≤ 20 ∧ ∀ x ∈ l, x.length ≤ 4100) ∧ w = w'
theorem ltake_succ {xs ys : List (List Int)} {k : Nat} (hx : k < xs.length) (hy : k < ys.length) (h : xs.take k = ys.take k) : (xs.take (k + 1) = ys.take (k + 1)) ↔ xs[k] = ys[k] := by
  rw [List.take_succ_eq_append_getElem hx, List.take_succ_eq_append_getElem hy, h]
  exact ⟨fun e => by have := List.append_cancel_left e; simpa using this, fun e => by rw [e]⟩
end
section
set_option linter.unusedSimpArgs false
set_option linter.unusedVariables false
open Go.RowKit Sha
theorem bit_test (x : W) : (bits BinOp.and IntKind.u32 (U x) 1 == 1) = x.getLsbD 0 := by
  rw [show (1 : Int) = U 1#32 by decide, U_and]
  rw [Bool.eq_iff_iff, beq_iff_eq]
  constructor
  · intro h
    have h1 : x &&& 1#32 = 1#32 := by rw [← ofInt_U (x &&& 1#32), h]; rfl
    have := congrArg (·.getLsbD 0) h1
    simpa using this
  · intro h
    congr 1
    apply BitVec.eq_of_getLsbD_eq
    intro i hi
    rw [BitVec.getLsbD_and, BitVec.getLsbD_one]
    by_cases h0 : i = 0
    · subst h0; simp [h]
    · simp [h0]
theorem bit_half (x : W) : U x / (2 : Int) = U (x >>> 1) := U_shr x 1
theorem bit_poly (x : W) : bits BinOp.xor IntKind.u32 (U x) 3988292384 = U (x ^^^ Crc.poly) := by
  rw [show (3988292384 : Int) = U Crc.poly by decide, U_xor]
theorem bitOn_if (x : W) : Crc.bitOn x = if x.getLsbD 0 then x >>> 1 ^^^ Crc.poly else x >>> 1 := by unfold Crc.bitOn; rfl
set_option maxHeartbeats 400000 in
theorem bitOn_any (x : W) (w : World) :
    Calls Try.prog 81 #[v32 x] w fun e w' => e = .returned (v32 (Crc.bitOn x)) ∧ w = w' := by
  have hb := bit_test x
  have HF := Lib.hid (bitOn_if x)
  cases hc : x.getLsbD 0 with
  | true =>
    rw [hc] at hb
    have HC := Lib.hid hc
    clear hc
    go_enter Try.func81, Try.ntmps81
    go_wp2
    go_ret
    exact ⟨ret_int (by rw [HF.out, HC.out, bit_half, bit_poly]; rfl), rfl⟩
  | false =>
    rw [hc] at hb
    have HC := Lib.hid hc
    clear hc
    go_enter Try.func81, Try.ntmps81
    go_wp2
    go_ret
    exact ⟨ret_int (by rw [HF.out, HC.out, bit_half]; rfl), rfl⟩
set_option maxHeartbeats 400000 in
theorem byteOn_any (x : W) (w : World) :
    Calls Try.prog 80 #[v32 x] w fun e w' => e = .returned (v32 (Crc.on 8 x)) ∧ w = w' := by
  go_enter Try.func80, Try.ntmps80
  go_wp2
  go_loop [0, 3] (fun v i => ∃ k : Nat, k ≤ 8 ∧ i = .int .i64 k ∧ v = v32 (Crc.on k x)) (fun _ i => 8 - (intOf i).toNat)
  case atStart => exact ⟨0, by omega, rfl, by rw [Crc.on_zero]⟩
  case round =>
    obtain ⟨k, hk, rfl, rfl⟩ := hrel
    by_cases hlt : k < 8
    · have HL := Lib.hid (Crc.on_last k x)
      go_wp2_with (go_at_call 81; refine (bitOn_any _ _).mono ?_; rintro e w' ⟨rfl, rfl⟩)
      go_round
      case rel => exact ⟨k + 1, by omega, by go_num, by rw [HL.out]⟩
      case measure => simp [intOf]; omega
    · obtain rfl : k = 8 := by omega
      go_wp2
      go_ret
      exact ⟨rfl, rfl⟩
theorem byteOn_int (n : Int) (w : World) (h : 0 ≤ n ∧ n < 4294967296) :
    Calls Try.prog 80 #[.int .u32 n] w fun e w' => e = .returned (v32 (Crc.on 8 (BitVec.ofInt 32 n))) ∧ w = w' := by
  have := byteOn_any (BitVec.ofInt 32 n) w
  rwa [show v32 (BitVec.ofInt 32 n) = .int .u32 n by show Value.int .u32 _ = _; rw [U_ofInt, Int.emod_eq_of_lt h.1 h.2]] at this
theorem infoTab : (Try.prog.info? 123).map (fun i => i.zero) = some (some (.agg ((Crc.tabUpto 0).map v32).toArray)) := by kernel_rfl
theorem sizeTab : (Try.prog.info? 123).map (fun i => i.size) = some 256 := by kernel_rfl
theorem cone32 (l : List W) : (l.map v32).toArray.all (·.oneCell') = true := by simp [Value.oneCell']
set_option maxRecDepth 100000 in
set_option maxHeartbeats 1000000 in
theorem table_any (w : World) : Calls Try.prog 79 #[] w fun e w' => e = .returned (.agg ((Crc.tabUpto 256).map v32).toArray) ∧ Below w.heap.size w w' := by
  go_enter Try.func79, Try.ntmps79
  go_wp2_with (refine wpList_alloc_arr rfl 123 rfl _ infoTab ?_)
  have b2 := ((Below.refl w.heap.size w).alloc (by simp) (Obj.cells ((Crc.tabUpto 0).map v32).toArray 123)).alloc (by simp) (Obj.cells ((Crc.tabUpto 0).map v32).toArray 123)
  have f0 := (Blk.new w ((Crc.tabUpto 0).map v32).toArray 123).old (Obj.cells ((Crc.tabUpto 0).map v32).toArray 123)
  have f1 := Blk.new (w.alloc (Obj.cells ((Crc.tabUpto 0).map v32).toArray 123)) ((Crc.tabUpto 0).map v32).toArray 123
  generalize (w.alloc (Obj.cells ((Crc.tabUpto 0).map v32).toArray 123)).alloc (Obj.cells ((Crc.tabUpto 0).map v32).toArray 123) = w2 at *
  simp only [World.size_alloc] at f0 f1
  go_loopw [4] (fun i wr => ∃ k : Nat, k ≤ 256 ∧ i = .int .i64 k ∧ Below w.heap.size w wr ∧ Blk wr w.heap.size ((Crc.tabUpto 0).map v32) 123 ∧ Blk wr (w.heap.size + 1) ((Crc.tabUpto k).map v32) 123) (fun i _ => 256 - (intOf i).toNat)
  case atStart => exact ⟨0, by omega, rfl, b2, f0, f1⟩
  case round =>
    clear b2 f0 f1
    obtain ⟨k, hk, rfl, hb, h0, h1⟩ := hrel
    by_cases hlt : k < 256
    · have hand := Crc.low_and k hlt
      have hle := Crc.lowOf_le k hlt
      have HS := Lib.hid (Crc.tabUpto_succ k hlt)
      have HO := Lib.hid (Crc.low_on k hlt)
      have HP := Lib.hid (Crc.lowOf_pos k hlt)
      have cg : ∀ i, i < k → wr.cell? ⟨w.heap.size + 1, i, none⟩ = some (v32 (Crc.on 8 (BitVec.ofNat 32 i))) := by
        intro i hi
        rw [h1.cell, List.getElem?_map, Crc.tabUpto_get k i hi (by omega)]; rfl
      have CG := Lib.hid cg
      have cf : wr.frozen? ⟨w.heap.size + 1, k, none⟩ = false := h1.free _
      have ck : wr.cell? ⟨w.heap.size + 1, k, none⟩ = some (v32 ((Crc.tabUpto k).getD k 0)) := by
        rw [h1.cell, List.getElem?_map, List.getElem?_eq_getElem (by rw [Crc.tabUpto_length]; omega)]; simp [Crc.tabUpto_length, hlt]
      have H0 := Lib.hid h0
      have H1 := Lib.hid h1
      clear cg h0 h1
      generalize Crc.lowOf k = lo at *
      by_cases he : k = lo
      · have t1 : ((k : Int) == (lo : Int)) = true := by rw [beq_iff_eq]; omega
        have HE := Lib.hid he
        clear he
        go_wp2_with (go_at_call 80; refine (byteOn_int _ _ (by omega)).mono ?_; rintro e w' ⟨rfl, rfl⟩)
        go_roundw
        case rel =>
          refine ⟨k + 1, by omega, by go_num, hb.setCell (by simp) _, H0.out.setOther _ _ (by simp), ?_⟩
          rw [HS.out]
          exact H1.out.set _ _
        case measure => simp [intOf]; omega
      · obtain ⟨hp1, hp2⟩ := HP.out (fun h => he h.symm)
        have t1 : ((k : Int) == (lo : Int)) = false := by rw [beq_eq_false_iff_ne]; omega
        have c1 := CG.out lo (by omega)
        have c2 := CG.out (k - lo) (by omega)
        clear he
        have v1 : (0 : Int) ≤ (k : Int) - (lo : Int) := by omega
        have v2 : ((k : Int) - (lo : Int)).toNat = k - lo := by omega
        have HV2 := Lib.hid v2
        clear v2
        go_wp2_with fail
        refine region_tail 11 (by kernel_rfl) (by kernel_rfl) ?_
        simp only [List.take_succ_cons, List.take_zero, List.drop_succ_cons, List.drop_zero]
        repeat (go_big_quiet_step (fail))
        refine wpQuiet_nil ?_
        go_wp2_with fail
        go_roundw
        case rel =>
          refine ⟨k + 1, by omega, by go_num, hb.drew.setCell (by simp) _, H0.out.drew.setOther _ _ (by simp), ?_⟩
          rw [HS.out, ← HO.out]
          unfold v32
          rw [← U_xor]
          exact (H1.out.set _ _).drew
        case measure => simp [intOf]; omega
    · obtain rfl : k = 256 := by omega
      have hsz2 : (Try.prog.info? 123).map (fun i => i.size) = some ((Crc.tabUpto 256).map v32).toArray.size := by rw [sizeTab]; simp [Crc.tabUpto_length]
      have H0 := Lib.hid h0
      have H1 := Lib.hid h1
      clear h0 h1
      go_wp2_with (first
        | (refine wpList_load_row rfl 123 _ rfl _ rfl _ _ _ _ H1.out (Try.underlying123) rfl hsz2 ?_)
        | (refine wpList_store_row rfl 123 _ _ rfl _ _ rfl rfl _ _ H0.out hsz2 (by simp [Crc.tabUpto_length]) (cone32 _) ?_))
      refine bodyPost_ret (v := .agg ((Crc.tabUpto 256).map v32).toArray) ?_ rfl ⟨rfl, Below.setRow hb (by omega) _⟩
      exact results_cell_row rfl _ _ _ _ _ _ _ rfl (H0.out.row _) (Try.underlying123) rfl hsz2
/-- Bytes behind a sum: the table's way. -/
theorem place_get (x : W) (c : Int) : (Crc.tabUpto 256)[Crc.placeOf x c]? = some (Crc.on 8 (BitVec.ofNat 32 (Crc.placeOf x c))) := Crc.tabUpto_get 256 _ (Crc.placeOf_lt x c) (Crc.placeOf_lt x c)
theorem shr8 (x : W) : U x / (256 : Int) = U (x >>> 8) := U_shr x 8
set_option maxRecDepth 100000 in
set_option maxHeartbeats 1000000 in
theorem more_any (n : Int) (s : W) (hn : n = U s) (zs : List Int) (p : Option Addr) (cap : Nat) (w : World) (hz : ∀ n ∈ zs, 0 ≤ n ∧ n ≤ 255) (hA : At w p (zs.map v8)) (hc : zs.length ≤ cap) (hm : cap ≤ 9223372036854775807) :
    Calls Try.prog 70 #[.int .u32 n, .slice p zs.length cap] w fun e w' => e = .returned (v32 (Crc.more s zs)) ∧ Below w.heap.size w w' := by
  subst hn
  obtain ⟨len, hlen⟩ : ∃ n, n = zs.length := ⟨_, rfl⟩
  rw [← hlen] at hc ⊢
  have Hlen := Lib.hid hlen
  clear hlen
  go_enter Try.func70, Try.ntmps70
  have lk : ((Crc.tabUpto 256).map v32).toArray.size = 256 := by simp [Crc.tabUpto_length]
  have hsz : (Try.prog.info? 123).map (fun i => i.size) = some ((Crc.tabUpto 256).map v32).toArray.size := by rw [sizeTab, lk]
  have LK := Lib.hid lk
  clear lk
  go_wp2_with (first
    | (refine wpList_alloc_arr rfl 123 rfl _ infoTab ?_)
    | (refine wpList_store_row rfl 123 _ _ rfl _ _ rfl rfl _ _ (Blk.new _ _ _) hsz (by rw [LK.out]; simp [Crc.tabUpto_length]) (cone32 _) ?_)
    | (go_at_call 79; refine (table_any _).mono ?_; rintro e w1 ⟨rfl, hb1⟩))
  obtain ⟨g, hg⟩ : ∃ g, g = w1.heap.size := ⟨_, rfl⟩
  have W0 : Below w.heap.size w ((w1.alloc (Obj.cells ((Crc.tabUpto 0).map v32).toArray 123)).setRow w1.heap.size ((Crc.tabUpto 256).map v32).toArray) :=
    Below.setRow (hb1.alloc hb1.size _) hb1.size _
  have W1 : Blk ((w1.alloc (Obj.cells ((Crc.tabUpto 0).map v32).toArray 123)).setRow w1.heap.size ((Crc.tabUpto 256).map v32).toArray) g ((Crc.tabUpto 256).map v32) 123 := by rw [hg]; exact (Blk.new _ _ _).row _
  rw [← hg] at W0 W1 ⊢
  generalize ((w1.alloc (Obj.cells ((Crc.tabUpto 0).map v32).toArray 123)).setRow g ((Crc.tabUpto 256).map v32).toArray) = w2 at *
  have HA := Lib.hid (hA.below W0)
  have H1 := Lib.hid W1
  have HB := Lib.hid W0
  clear hb1 hg hA W0 W1 hsz LK
  go_loop [6, 14] (fun v i => ∃ k : Nat, k ≤ len ∧ i = .int .i64 k ∧ v = v32 (Crc.run (~~~s) (zs.take k))) (fun _ i => len - (intOf i).toNat)
  case atStart => exact ⟨0, by omega, rfl, by rw [U_notmax, List.take_zero, Crc.run_nil]⟩
  case round =>
    obtain ⟨k, hk, rfl, rfl⟩ := hrel
    by_cases hlt : k < len
    · obtain ⟨c, hcc⟩ : ∃ c, c = zs.getD k 0 := ⟨_, rfl⟩
      have hlz : k < zs.length := by rw [← Hlen.out]; exact hlt
      have HT := Lib.hid (Crc.run_take (~~~s) zs k c hlz hcc)
      have hcb : 0 ≤ c ∧ c ≤ 255 := hz c (by rw [hcc, List.getD_eq_getElem?_getD, List.getElem?_eq_getElem hlz]; simp)
      obtain ⟨bb, off, rfl, hcell⟩ := HA.out.addr (by rw [List.length_map]; omega)
      have cc : w2.cell? ⟨bb, off + k, none⟩ = some (v8 c) := hcell k _ (by rw [List.getElem?_map, List.getElem?_eq_getElem hlz, hcc, List.getD_eq_getElem?_getD, List.getElem?_eq_getElem hlz]; rfl)
      generalize Crc.run (~~~s) (zs.take k) = x at *
      have px := Crc.place_xor x c hcb
      have pl := Crc.placeOf_lt x c
      have HU := Lib.hid (Crc.upd_eq x c hcb)
      have cp : w2.cell? ⟨g, Crc.placeOf x c, none⟩ = some (v32 (Crc.on 8 (BitVec.ofNat 32 (Crc.placeOf x c)))) := by
        rw [H1.out.cell, List.getElem?_map, place_get]; rfl
      generalize Crc.placeOf x c = j at *
      clear hcc hcell hlz
      go_wp2_with fail
      go_round
      case rel => exact ⟨k + 1, by omega, by go_num, by rw [HT.out, ← HU.out, shr8, U_xor]⟩
      case measure => simp [intOf]; omega
    · obtain rfl : k = len := by omega
      have HF : Hid (Crc.more s zs = ~~~(Crc.run (~~~s) (zs.take k))) := by show _ = _; rw [Hlen.out, List.take_length, Crc.more_eq]
      go_wp2_with fail
      go_ret
      exact ⟨ret_int (by rw [HF.out, U_notmax]), HB.out⟩
set_option maxHeartbeats 400000 in
theorem csum_any (zs : List Int) (len : Nat) (p : Option Addr) (cap : Nat) (w : World) (hl : len = zs.length) (hz : ∀ n ∈ zs, 0 ≤ n ∧ n ≤ 255) (hA : At w p (zs.map v8)) (hc : len ≤ cap) (hm : cap ≤ 9223372036854775807) :
    Calls Try.prog 46 #[.slice p len cap] w fun e w' => e = .returned (v32 (Crc.sum zs)) ∧ Below w.heap.size w w' := by
  subst hl
  have HA := Lib.hid hA
  clear hA
  go_enter Try.func46, Try.ntmps46
  go_wp2_with (go_at_call 70; refine (more_any 0 0#32 rfl zs _ _ _ hz HA.out hc hm).mono ?_; rintro e w1 ⟨rfl, hb1⟩)
  go_ret
  exact ⟨ret_int (by rw [Crc.sum_eq]), hb1⟩
end
section
set_option linter.unusedSimpArgs false
set_option linter.unusedVariables false
open Go.RowKit Sha
theorem bit_mod (x : W) : (U x % 2 == 1) = x.getLsbD 0 := by
  unfold U
  rw [Bool.eq_iff_iff, beq_iff_eq]
  have h : x.getLsbD 0 = decide (x.toNat % 2 = 1) := by
    rw [BitVec.getLsbD, Nat.testBit_zero]
  rw [h, decide_eq_true_iff]
  omega
theorem xor_byte (x : W) (c : Int) (hc : 0 ≤ c ∧ c ≤ 255) : bits BinOp.xor IntKind.u32 (U x) c = U (x ^^^ BitVec.ofInt 32 c) := by
  have : c = U (BitVec.ofInt 32 c) := by rw [U_ofInt, Int.emod_eq_of_lt (by omega) (by omega)]
  conv => lhs; rw [this]
  rw [U_xor]
end
section
set_option linter.unusedSimpArgs false
set_option linter.unusedVariables false
open Go.RowKit Sha
theorem own_full (w : World) (cs : Array Value) (n : Nat) (e : TypeId) (hm : n ≤ maxLen) (hs : cs.size = n) : (w.alloc (.cells cs e)).ownsRow w.heap.size e 1 (.slice (some ⟨w.heap.size, 0, none⟩) n n) n cs.toList :=
  ⟨by simp [hs], .inr ⟨w.heap.size, n, cs, rfl, Nat.le_refl _, heap_alloc_new w _, Nat.le_refl _, hm, by simp [hs], by rw [Nat.mul_one, List.take_of_length_le (by simp [hs])]⟩⟩
theorem own_belowS {w w' : World} {B n size : Nat} {e : TypeId} {v : Value} {xs : List Value} (h : w.ownsRow B e size v n xs) (hb : Below w.heap.size w w') : w'.ownsRow B e size v n xs := by
  refine ⟨h.1, ?_⟩
  rcases h.2 with h' | ⟨g, cap, cur, hv, hg, hh, h4⟩
  · exact Or.inl h'
  · exact Or.inr ⟨g, cap, cur, hv, hg, by rw [hb.block g (h.lt g (by rw [hv]; rfl)).2]; exact hh, h4⟩
theorem four_heads {zs : List Int} (h : 4 ≤ zs.length) : ∃ a b c d rest, zs = a :: b :: c :: d :: rest := by
  rcases zs with _ | ⟨a, _ | ⟨b, _ | ⟨c, _ | ⟨d, r⟩⟩⟩⟩
  · simp at h
  · simp at h
  · simp at h
  · simp at h
  · exact ⟨a, b, c, d, r, rfl⟩
/-- How long a record's frame is. -/
def fsize (n : Int) : Int := if n < 1 ∨ 4000 < n then 0 else 8 + n
/-- What Put and Join leave: bytes of the call's own, and an error. -/
def FDone (w0 : World) (r : List Int × Int) (e : Ending) (w : World) : Prop :=
  ∃ v, e = .returned (.tuple #[v, .int .i64 r.2]) ∧ w.ownsRow w0.heap.size 5 1 v r.1.length (r.1.map v8) ∧ Below w0.heap.size w0 w
theorem fput_no {b : List Int} (h : Frm.bad b ≠ 0) : Frm.put b = ([], Frm.bad b) := by unfold Frm.put; rw [if_neg h]
theorem fput_yes {b : List Int} (h : Frm.bad b = 0) : Frm.put b = (Frm.fr b, 0) := by unfold Frm.put; rw [if_pos h]
theorem fbad_nil {b : List Int} (h : b.length = 0) : Frm.bad b = 2 := by unfold Frm.bad; rw [if_pos h]
theorem fbad_long {b : List Int} (h : 4000 < b.length) : Frm.bad b = 3 := by unfold Frm.bad; rw [if_neg (by omega), if_pos h]
theorem fbad_ok {b : List Int} (h1 : b.length ≠ 0) (h2 : b.length ≤ 4000) : Frm.bad b = 0 := by unfold Frm.bad; rw [if_neg h1, if_neg (by omega)]
theorem fjoin_bad {l : List (List Int)} {k : Nat} (hk : k < l.length) (h : Frm.joinE (l.take k) = 0) (hb : Frm.bad l[k] ≠ 0) : Frm.join l = ([], Frm.bad l[k]) := by
  have e : Frm.joinE l = Frm.bad l[k] := by
    conv => lhs; rw [← List.take_append_drop k l, List.drop_eq_getElem_cons hk]
    exact Frm.joinE_prefix _ _ _ h hb
  unfold Frm.join
  rw [e, if_neg hb]
theorem fjoin_next {l : List (List Int)} {k : Nat} (hk : k < l.length) (h : Frm.joinE (l.take k) = 0) (hb : Frm.bad l[k] = 0) : Frm.joinE (l.take (k + 1)) = 0 ∧ Frm.frs (l.take (k + 1)) = Frm.frs (l.take k) ++ Frm.fr l[k] := by
  rw [List.take_succ_eq_append_getElem hk]
  refine ⟨by rw [Frm.joinE_append _ _ h]; exact hb, ?_⟩
  rw [Frm.frs_append, Frm.frs_cons, Frm.frs_nil, List.append_nil]
theorem fjoin_all {l : List (List Int)} (h : Frm.joinE l = 0) : Frm.join l = (Frm.frs l, 0) := by unfold Frm.join; rw [if_pos h]
end
section
set_option linter.unusedSimpArgs false
set_option linter.unusedVariables false
open Go.RowKit Sha
theorem cut_at {w : World} {p : Option Addr} {zs : List Int} (l h : Nat) (hA : At w p (((zs.map v8).take h).drop l)) : At w p (((zs.take h).drop l).map v8) := by
  rwa [List.map_drop, List.map_take]
theorem Crc_u32 (zs : List Int) : v32 (Crc.sum zs) = .int .u32 (Frm.sumN zs : Nat) := rfl
/-- Bytes that are only read. -/
structure GoodB (w : World) (y : SHdr) : Prop where
  bytes : ∀ n ∈ y.1, 0 ≤ n ∧ n ≤ 255
  at_ : At w y.2.1 (y.1.map v8)
  le : y.1.length ≤ y.2.2
  max : y.2.2 ≤ 9223372036854775807
/-- What stands tells: a record of the bytes, or none. -/
def StDone (w0 w : World) (x : List Int) (e : Ending) (w' : World) : Prop :=
  ∃ q c, e = .returned (.slice q x.length c) ∧ GoodS w0 (x, q, c) ∧ ∃ m, w' = w.drewN m
theorem good_none (w : World) : GoodS w ([], none, 0) := ⟨by simp, At.nil _ _, by simp, by simp, fun _ => rfl⟩
theorem stands_lt8 {zs : List Int} (h : zs.length < 8) : Frm.stands zs = [] := by unfold Frm.stands; rw [if_pos h]
theorem stands_out {zs : List Int} (h8 : ¬ zs.length < 8) {k : Nat} (hk : k = Crc.leN (zs.take 4)) (h : k < 1 ∨ 4000 < k ∨ zs.length < 8 + k) : Frm.stands zs = [] := by
  subst hk; unfold Frm.stands; rw [if_neg h8, if_pos h]
theorem stands_in {zs : List Int} (h8 : ¬ zs.length < 8) {k : Nat} (hk : k = Crc.leN (zs.take 4)) (h : ¬ (k < 1 ∨ 4000 < k ∨ zs.length < 8 + k)) : Frm.stands zs = if Frm.sumN ((zs.drop 8).take k) = Crc.leN ((zs.drop 4).take 4) then (zs.drop 8).take k else [] := by
  subst hk; unfold Frm.stands; rw [if_neg h8, if_neg h]
theorem part_8 (zs : List Int) (k : Nat) : (zs.take (8 + k)).drop 8 = (zs.drop 8).take k := by rw [List.drop_take, show 8 + k - 8 = k by omega]
theorem split_go {zs : List Int} {k : Nat} {l : List (List Int)} (h : Frm.split zs = (l ++ (Frm.split (zs.drop k)).1, k + (Frm.split (zs.drop k)).2)) (hne : Frm.stands (zs.drop k) ≠ []) :
    Frm.split zs = ((l ++ [Frm.stands (zs.drop k)]) ++ (Frm.split (zs.drop (k + 8 + (Frm.stands (zs.drop k)).length))).1, k + 8 + (Frm.stands (zs.drop k)).length + (Frm.split (zs.drop (k + 8 + (Frm.stands (zs.drop k)).length))).2) := by
  rw [h, Frm.split_some hne, List.drop_drop, show k + (8 + (Frm.stands (zs.drop k)).length) = k + 8 + (Frm.stands (zs.drop k)).length by omega]
  refine Prod.ext ?_ ?_
  · simp
  · simp only; omega
theorem split_stop {zs : List Int} {k : Nat} {l : List (List Int)} (h : Frm.split zs = (l ++ (Frm.split (zs.drop k)).1, k + (Frm.split (zs.drop k)).2)) (h0 : Frm.stands (zs.drop k) = []) : Frm.split zs = (l, k) := by
  rw [h, Frm.split_none h0]; simp
/-- What Split leaves: records of the call's own, and a place. -/
def SpDone (w0 : World) (r : List (List Int) × Nat) (e : Ending) (w : World) : Prop :=
  ∃ v ys, e = .returned (.tuple #[v, .int .i64 r.2]) ∧ ys.map (·.1) = r.1 ∧ OwnS w0.heap.size w v ys ∧ Below w0.heap.size w0 w
end
section
set_option linter.unusedSimpArgs false
set_option linter.unusedVariables false
open Go.RowKit Sha
end
end Go.Proofs.Yteepaoklibflpaa
