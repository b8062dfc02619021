/-
  The law WireKnown.
-/
import Derived.Test.YteepaoklibflpaaR14
import Derived.Lib.AppendZerosOnto
namespace Go.Proofs.Yteepaoklibflpaa
section
set_option linter.unusedSimpArgs false
set_option linter.unusedVariables false
open Go.RowKit Sha Nte
def ackN : Not := { none_ with K := 17, F := 1, T := 2, C1 := 2, C2 := 1, C3 := 3, S := 5 }
def tellN : Not := { learnN with K := 15, X := [1] }
def pingN : Not := { none_ with K := 1, F := 1, T := 1, C1 := 3, C2 := 1, C3 := 9 }
def oddN : Not := { learnN with K := 20 }
def ackB : List Int := [17, 1, 2, 2, 1, 3, 5] ++ Fld.zero32
theorem ok_nums {x : Not} (hK : fit x.K) (hF : fit x.F) (hT : fit x.T) (hC : fit x.C1 ∧ fit x.C2 ∧ fit x.C3) (hS : fit x.S) (hD : x.D = Fld.zero32) (hO : x.H = 0 ∧ x.B1 = 0 ∧ x.B2 = 0 ∧ x.O1 = 0 ∧ x.O2 = 0) (hX : Frm.Bytes x.X) (hl : x.X.length ≤ 1000) (hI : x.I = []) (hW : x.W = []) : x.ok := by
  have f0 : fit 0 := by unfold fit; omega
  refine ⟨hK, hF, hT, hC, hS, ?_, ?_, ?_, ?_, ?_, hX, by omega, ?_, ?_, ?_, ?_⟩
  · rw [hO.1]; exact f0
  · rw [hO.2.1, hO.2.2.1]; exact ⟨f0, f0⟩
  · rw [hO.2.2.2.1, hO.2.2.2.2]; exact ⟨f0, f0⟩
  · rw [hD]; exact zero_bytes
  · rw [hD]; exact Fld.zero32_length
  · rw [hI]; simp
  · rw [hI]; simp
  · rw [hW]; simp
  · rw [hW]; simp
theorem ack_ok : ackN.ok := by refine ok_nums ?_ ?_ ?_ ?_ ?_ rfl ⟨rfl, rfl, rfl, rfl, rfl⟩ ?_ ?_ rfl rfl <;> simp [ackN, none_, fit, Frm.Bytes]
theorem tell_ok : tellN.ok := by refine ok_nums ?_ ?_ ?_ ?_ ?_ rfl ⟨rfl, rfl, rfl, rfl, rfl⟩ ?_ ?_ rfl rfl <;> simp [tellN, learnN, none_, fit, Frm.Bytes]
theorem ping_ok : pingN.ok := by refine ok_nums ?_ ?_ ?_ ?_ ?_ rfl ⟨rfl, rfl, rfl, rfl, rfl⟩ ?_ ?_ rfl rfl <;> simp [pingN, none_, fit, Frm.Bytes]
theorem odd_ok : oddN.ok := by refine ok_nums ?_ ?_ ?_ ?_ ?_ rfl ⟨rfl, rfl, rfl, rfl, rfl⟩ ?_ ?_ rfl rfl <;> simp [oddN, learnN, none_, fit, Frm.Bytes]
theorem ack_can : Nte.Can ackN := by
  unfold Nte.Can Nums Nte.Rest Nte.Call setOk nodeOk ackN
  simp [letters, none_]
theorem ack_inner : inner ackN = ackB := by
  unfold inner ackN ackB
  simp [letters, enb, n8_small, none_]
theorem ack_check : check ackN = 0 := check_of ack_can (by rw [ack_inner]; decide)
theorem tell_check : check tellN = 2 := by
  refine check_no fun h => ?_
  have := h.2.2.2.2.2.2.2.1
  simp [tellN, learnN, letters, none_] at this
theorem ping_check : check pingN = 2 := check_no fun h => h.2.2.2.1 rfl
theorem odd_check : check oddN = 2 := by
  refine check_no fun h => ?_
  have := h.1.2
  simp [oddN] at this
theorem get_nil : get [] = (none_, 10) := get_no fun x _ h => by
  have := congrArg List.length (put_zero h).2
  rw [Frm.fr_length] at this
  simp only [List.length_nil] at this
  omega
theorem built_ack : Try.prog.built 32 [(0, .int .i64 17), (1, .int .i64 1), (2, .int .i64 2), (3, .agg #[.int .i64 2, .int .i64 1, .int .i64 3]), (4, .int .i64 5)] = some (ncells ackN NHd.none_).toArray := by unfold ncells ackN; kernel_rfl
theorem built_ping : Try.prog.built 32 [(0, .int .i64 1), (1, .int .i64 1), (2, .int .i64 1), (3, .agg #[.int .i64 3, .int .i64 1, .int .i64 9])] = some (ncells pingN NHd.none_).toArray := by unfold ncells pingN; kernel_rfl
@[irreducible] def fieldOp (t : TypeId) (v : Value) (i : Nat) : Sem Next := do pure (.value (← Instr.field t v i))
section
variable (ρ : Operand → Value) (dst : Option Tmp) (ty : TypeId) (pos : String) (after : Array Edge) (guard : Option (Nat × Bool)) (x y : Operand) (i : Nat)
theorem execOp_fieldNote : execOp ρ { dst := dst, op := .field 32 x i, type := ty, pos := pos, after := after, guard := guard } = fieldOp 32 (ρ x) i := by unfold fieldOp; rfl
end
theorem field_learn (w : World) : (fieldOp 32 (.agg (ncells learnN NHd.none_).toArray) 3).run Try.prog w = .ok (.value (.agg #[.int .i64 3, .int .i64 1, .int .i64 9])) w := by
  unfold fieldOp ncells learnN
  simp [go_sem, Instr.field, asAgg]
def tellH (g : Nat) : NHd := { NHd.none_ with q := some ⟨g, 0, none⟩, c := 1 }
theorem tell_cells (g : Nat) : ((ncells learnN NHd.none_).set 0 (.int .i64 15)).set 45 (.slice (some ⟨g, 0, none⟩) 1 1) = ncells tellN (tellH g) := rfl
theorem odd_cells : (ncells learnN NHd.none_).set 0 (.int .i64 20) = ncells oddN NHd.none_ := rfl
theorem tell_good {w : World} {g : Nat} (h : Blk w g [.int .u8 1] 5) : NGood w tellN (tellH g) := by
  refine ⟨tell_ok, ?_, by simp [tellN, tellH], by simp [tellH], (fun h => by cases h), Shp.Told.none_ w, Shp.Told.none_ w⟩
  exact Or.inr ⟨g, 0, rfl, fun i v hv => by rw [Nat.zero_add, h.cell]; exact hv⟩
theorem zero_list (k : Nat) : (Builtin.zeroCells (Value.cells (.int .u8 0)) k).toList = (List.replicate k (0 : Int)).map v8 := by
  apply List.ext_getElem?
  intro i
  by_cases hi : i < k
  · simp [Builtin.zeroCells, Value.cells, hi, v8, Nat.mod_one]
  · simp [Builtin.zeroCells, Value.cells, hi]
/-- 'append(b, make([]byte, k)...)', no room left. -/
theorem run_app_zeros (w : World) (g : Nat) (xs : List Int) (n k : Nat) (ty : TypeId) (hn : xs.length = n) (hb : Blk w g (xs.map v8) 5) (hx : ∀ m ∈ xs, 0 ≤ m ∧ m ≤ 255) (hk : 0 < k ∧ k ≤ 1000) (hn1 : n ≤ 1000) :
    ∃ cap w', (Builtin.append_ #[28, 3] ty #[.slice (some ⟨g, 0, none⟩) n n, .int .i64 k]).run Try.prog w = .ok (.slice (some ⟨w.heap.size, 0, none⟩) (n + k) cap) w' ∧ GoodS w' (xs ++ List.replicate k 0, some ⟨w.heap.size, 0, none⟩, cap) ∧ Below w.heap.size w w' := by
  obtain ⟨i, hi, hz0, hz1, hz2⟩ := info_parts (P := Try.prog) kbyte_info
  have hge : n + k ≤ grownCap w (n + k) n 5 := grownCap_ge w _ _ _
  have hcm : grownCap w (n + k) n 5 ≤ maxLen := grownCap_le_maxLen w (n + k) n 5 (by unfold maxLen; omega)
  have h := Lib.run_append_grow_zeros (P := Try.prog) w 28 3 ty 5 i _ .i64 .i64 Try.underlying28 Try.underlying3 hi hz0 (some ⟨g, 0, none⟩) n n (xs.map v8)
    (by rw [hz1]; exact run_firstCells_some w.drew 1 n ⟨g, 0, none⟩ n n (xs.map v8) (by simp [hn]) (fun j v hv => by rw [Addr.add_mid, Nat.zero_add, (hb.drew).cell]; exact hv))
    k hk.1 (by rw [hz1]; omega) (by omega) (by omega) (by rw [hz2]; omega) (by rw [hz2]; exact growslice_fits (by omega) (by omega))
  generalize grownCap w (n + k) n 5 = G at *
  refine ⟨G, _, h, ⟨fun m hm => ?_, ?_, ?_, by unfold maxLen at hcm; simp only; omega, by intro h; cases h⟩, (Below.refl _ w).drew.alloc (Nat.le_refl _) _⟩
  · rcases List.mem_append.1 hm with hm | hm
    · exact hx m hm
    · rw [List.eq_of_mem_replicate hm]; omega
  · refine Or.inr ⟨w.heap.size, 0, rfl, fun j v hv => ?_⟩
    have hnew := Blk.new w.drew ((xs.map v8).toArray ++ Builtin.zeroCells (Value.cells (.int .u8 0)) k ++ Builtin.zeroCells (Value.cells (.int .u8 0)) (G - (n + k))) 5
    rw [Nat.zero_add]
    refine (hnew.cell j).trans ?_
    rw [Array.toList_append, Array.toList_append, zero_list, List.append_assoc, ← List.append_assoc, ← List.map_append]
    rw [List.getElem?_append_left (by have := (List.getElem?_eq_some_iff.1 hv).1; simpa using this)]
    exact hv
  · simp [hn]; omega
section
attribute [local go_sem ↓] execOp_allocNote execOp_storeNote execOp_makeNote execOp_loadNote execOp_boxNote execOp_fieldNote
set_option maxRecDepth 100000 in
set_option maxHeartbeats 4000000 in
theorem wknown_any (Wr : WireOK) (F : FrameOK) (w : World) : Calls Try.prog 3 #[] w fun e w' => e = .returned (.bool true) ∧ Below w.heap.size w w' := by
  have mk := fun w => run_makeOp w built_ack
  have al := alloc_note w
  have st := store_note1 w (x := ackN) (h := NHd.none_) nz_len
  go_enter Try.func3, Try.ntmps3
  go_wp2_with fail
  have B1 := Lib.hid ((Below.refl w.heap.size w).alloc (Nat.le_refl _) (Obj.cells (ncells ackN NHd.none_).toArray 32))
  have K1 := Lib.hid (show Blk (w.alloc (Obj.cells (ncells ackN NHd.none_).toArray 32)) w.heap.size (ncells ackN NHd.none_) 32 from Blk.new w (ncells ackN NHd.none_).toArray 32)
  generalize w.alloc (Obj.cells (ncells ackN NHd.none_).toArray 32) = w1 at *
  clear mk al st
  refine (learn_any w1).mono ?_
  rintro e2 w2 ⟨rfl, hb2⟩
  have B2 := Lib.hid (B1.out.trans (hb2.mono B1.out.size))
  have K2 := Lib.hid (K1.out.below hb2 K1.out.lt)
  have al := alloc_note w2
  have st := store_note1 w2 (x := learnN) (h := NHd.none_) nz_len
  clear hb2 B1 K1
  go_wp2_with fail
  rw [tell_cells]
  have hk3 := Blk.new w2 (ncells tellN (tellH (w2.heap.size + 1))).toArray 32
  have B3 := Lib.hid (B2.out.trans ((((Below.refl w2.heap.size w2).alloc (Nat.le_refl _) (Obj.cells (ncells tellN (tellH (w2.heap.size + 1))).toArray 32)).alloc (by simp) (Obj.cells #[Value.int .u8 1] 5)).mono B2.out.size))
  have K3 := Lib.hid ((K2.out.old (Obj.cells (ncells tellN (tellH (w2.heap.size + 1))).toArray 32)).old (Obj.cells #[Value.int .u8 1] 5))
  have T3 := Lib.hid (show Blk ((w2.alloc (Obj.cells (ncells tellN (tellH (w2.heap.size + 1))).toArray 32)).alloc (Obj.cells #[Value.int .u8 1] 5)) w2.heap.size (ncells tellN (tellH (w2.heap.size + 1))) 32 from hk3.old _)
  have D3 := Lib.hid (show Blk ((w2.alloc (Obj.cells (ncells tellN (tellH (w2.heap.size + 1))).toArray 32)).alloc (Obj.cells #[Value.int .u8 1] 5)) (w2.heap.size + 1) [.int .u8 1] 5 from by
    have := Blk.new (w2.alloc (Obj.cells (ncells tellN (tellH (w2.heap.size + 1))).toArray 32)) #[Value.int .u8 1] 5
    rwa [World.size_alloc] at this)
  clear hk3 al st K2 B2
  generalize (w2.alloc (Obj.cells (ncells tellN (tellH (w2.heap.size + 1))).toArray 32)).alloc (Obj.cells #[Value.int .u8 1] 5) = w3 at *
  generalize w2.heap.size = g2 at *
  refine (learn_any w3).mono ?_
  rintro e4 w4 ⟨rfl, hb4⟩
  have B4 := Lib.hid (B3.out.trans (hb4.mono B3.out.size))
  have K4 := Lib.hid (K3.out.below hb4 K3.out.lt)
  have T4 := Lib.hid (T3.out.below hb4 T3.out.lt)
  have D4 := Lib.hid (D3.out.below hb4 D3.out.lt)
  have fl := field_learn w4
  have mk := run_makeOp w4 built_ping
  have al := alloc_note w4
  have st := store_note1 w4 (x := pingN) (h := NHd.none_) nz_len
  clear hb4 B3 K3 T3 D3
  go_wp2_with fail
  have hb5 := (Below.refl w4.heap.size w4).alloc (Nat.le_refl _) (Obj.cells (ncells pingN NHd.none_).toArray 32)
  have B5 := Lib.hid (B4.out.trans (hb5.mono B4.out.size))
  have K5 := Lib.hid (K4.out.below hb5 K4.out.lt)
  have T5 := Lib.hid (T4.out.below hb5 T4.out.lt)
  have D5 := Lib.hid (D4.out.below hb5 D4.out.lt)
  have P5 := Lib.hid (show Blk (w4.alloc (Obj.cells (ncells pingN NHd.none_).toArray 32)) w4.heap.size (ncells pingN NHd.none_) 32 from Blk.new w4 (ncells pingN NHd.none_).toArray 32)
  clear hb5 fl mk al st B4 K4 T4 D4
  generalize w4.alloc (Obj.cells (ncells pingN NHd.none_).toArray 32) = w5 at *
  generalize w4.heap.size = g3 at *
  refine (learn_any w5).mono ?_
  rintro e6 w6 ⟨rfl, hb6⟩
  have B6 := Lib.hid (B5.out.trans (hb6.mono B5.out.size))
  have K6 := Lib.hid (K5.out.below hb6 K5.out.lt)
  have T6 := Lib.hid (T5.out.below hb6 T5.out.lt)
  have D6 := Lib.hid (D5.out.below hb6 D5.out.lt)
  have P6 := Lib.hid (P5.out.below hb6 P5.out.lt)
  have al := alloc_note w6
  have st := store_note1 w6 (x := learnN) (h := NHd.none_) nz_len
  clear hb6 B5 K5 T5 D5 P5
  go_wp2_with fail
  rw [odd_cells]
  have hb7 := (Below.refl w6.heap.size w6).alloc (Nat.le_refl _) (Obj.cells (ncells oddN NHd.none_).toArray 32)
  have B7 := Lib.hid (B6.out.trans (hb7.mono B6.out.size))
  have K7 := Lib.hid (K6.out.below hb7 K6.out.lt)
  have T7 := Lib.hid (T6.out.below hb7 T6.out.lt)
  have D7 := Lib.hid (D6.out.below hb7 D6.out.lt)
  have P7 := Lib.hid (P6.out.below hb7 P6.out.lt)
  have O7 := Lib.hid (show Blk (w6.alloc (Obj.cells (ncells oddN NHd.none_).toArray 32)) w6.heap.size (ncells oddN NHd.none_) 32 from Blk.new w6 (ncells oddN NHd.none_).toArray 32)
  clear hb7 al st B6 K6 T6 D6 P6
  generalize w6.alloc (Obj.cells (ncells oddN NHd.none_).toArray 32) = w7 at *
  generalize w6.heap.size = g4 at *
  refine (Wr.get [] 0 none 0 w7 rfl ⟨by simp, At.nil _ _, by simp, by simp, fun _ => rfl⟩ (by omega)).mono ?_
  rw [get_nil]
  rintro e8 w8 ⟨hh, rfl, _, _, hb8⟩
  dsimp only
  have al := alloc_note w8
  have st := store_note1 w8 (x := none_) (h := hh) nz_len
  have hb9 := hb8.trans (((Below.refl w8.heap.size w8).alloc (Nat.le_refl _) (Obj.cells (ncells none_ hh).toArray 32)).mono hb8.size)
  have B9 := Lib.hid (B7.out.trans (hb9.mono B7.out.size))
  have K9 := Lib.hid (K7.out.below hb9 K7.out.lt)
  have T9 := Lib.hid (T7.out.below hb9 T7.out.lt)
  have D9 := Lib.hid (D7.out.below hb9 D7.out.lt)
  have P9 := Lib.hid (P7.out.below hb9 P7.out.lt)
  have O9 := Lib.hid (O7.out.below hb9 O7.out.lt)
  clear hb8 hb9 B7 K7 T7 D7 P7 O7
  generalize hw9 : w8.alloc (Obj.cells (ncells none_ hh).toArray 32) = w9 at *
  go_wp2_with fail
  have hb0 : Below w9.heap.size w9 w9.drew := (Below.refl _ w9).drew
  have ES := Lib.hid (fun W (hb : Below w9.heap.size w9 W) => (show (fun w' => Below w9.heap.size w9 w' ∧ (loadOp 32 (.pointer (some ⟨w.heap.size, 0, none⟩))).run Try.prog w' = .ok (.value (.agg (ncells ackN NHd.none_).toArray)) w' ∧ (loadOp 32 (.pointer (some ⟨g2, 0, none⟩))).run Try.prog w' = .ok (.value (.agg (ncells tellN (tellH (g2 + 1))).toArray)) w' ∧ (loadOp 32 (.pointer (some ⟨g3, 0, none⟩))).run Try.prog w' = .ok (.value (.agg (ncells pingN NHd.none_).toArray)) w' ∧ (loadOp 32 (.pointer (some ⟨g4, 0, none⟩))).run Try.prog w' = .ok (.value (.agg (ncells oddN NHd.none_).toArray)) w') W from ⟨hb, load_note (o := 0) nz_len (K9.out.below hb K9.out.lt).range, load_note (o := 0) nz_len (T9.out.below hb T9.out.lt).range, load_note (o := 0) nz_len (P9.out.below hb P9.out.lt).range, load_note (o := 0) nz_len (O9.out.below hb O9.out.lt).range⟩))
  clear K9 P9 O9 T9 al st hw9
  refine wp_region_held_drew (S := (fun w' => Below w9.heap.size w9 w' ∧ (loadOp 32 (.pointer (some ⟨w.heap.size, 0, none⟩))).run Try.prog w' = .ok (.value (.agg (ncells ackN NHd.none_).toArray)) w' ∧ (loadOp 32 (.pointer (some ⟨g2, 0, none⟩))).run Try.prog w' = .ok (.value (.agg (ncells tellN (tellH (g2 + 1))).toArray)) w' ∧ (loadOp 32 (.pointer (some ⟨g3, 0, none⟩))).run Try.prog w' = .ok (.value (.agg (ncells pingN NHd.none_).toArray)) w' ∧ (loadOp 32 (.pointer (some ⟨g4, 0, none⟩))).run Try.prog w' = .ok (.value (.agg (ncells oddN NHd.none_).toArray)) w')) (by kernel_rfl) (ES.out _ hb0) (fun hHeld => ?_)
  refine ready_at 0 (by kernel_rfl) (by kernel_rfl) (fun K hK => ?_)
  simp only [List.getElem_cons_succ, List.getElem_cons_zero]
  go_simp
  go_at_call 8
  refine (wawake_any Wr F _).mono ?_
  rintro e w10 ⟨rfl, b10⟩
  have hb10 : Below w9.heap.size w9 w10 := hb0.trans (b10.mono hb0.size)
  (try go_wp2_with fail)
  refine hK.out _ _ (ES.out _ hb10) (fun hHeld => ?_)
  clear hK K
  try simp only [List.getElem_cons_succ, List.getElem_cons_zero, Act.put, List.setIfInBounds_toArray, List.set_cons_zero, List.set_cons_succ]
  refine take_at 1 (by kernel_rfl) (v := ?v1) (by kernel_rfl) (by kernel_rfl) (by kernel_rfl) (fun _ _ _ h => h) (by rfl) ?y1 (by assumption) ?r1
  case y1 => (intro w hSw; (try dsimp only at hSw); simp only [List.getElem_cons_succ, List.getElem_cons_zero]; go_simp; (try with_reducible rfl))
  try simp only [List.getElem_cons_succ, List.getElem_cons_zero, Act.put, List.setIfInBounds_toArray, List.set_cons_zero, List.set_cons_succ]
  refine take_at 2 (by kernel_rfl) (v := ?v2) (by kernel_rfl) (by kernel_rfl) (by kernel_rfl) (fun _ _ _ h => h) (by rfl) ?y2 (by assumption) ?r2
  case y2 => (intro w hSw; (try dsimp only at hSw); simp only [List.getElem_cons_succ, List.getElem_cons_zero]; go_simp; (try with_reducible rfl))
  try simp only [List.getElem_cons_succ, List.getElem_cons_zero, Act.put, List.setIfInBounds_toArray, List.set_cons_zero, List.set_cons_succ]
  refine ready_at 3 (by kernel_rfl) (by kernel_rfl) (fun K hK => ?_)
  simp only [List.getElem_cons_succ, List.getElem_cons_zero]
  go_simp
  have C11 : Blk (w10.alloc (Obj.cells #[Value.int .u8 17, Value.int .u8 1, Value.int .u8 2, Value.int .u8 2, Value.int .u8 1, Value.int .u8 3, Value.int .u8 5] 5)) w10.heap.size (([17, 1, 2, 2, 1, 3, 5] : List Int).map v8) 5 := Blk.new w10 #[Value.int .u8 17, Value.int .u8 1, Value.int .u8 2, Value.int .u8 2, Value.int .u8 1, Value.int .u8 3, Value.int .u8 5] 5
  have hb11 : Below w9.heap.size w9 (w10.alloc (Obj.cells #[Value.int .u8 17, Value.int .u8 1, Value.int .u8 2, Value.int .u8 2, Value.int .u8 1, Value.int .u8 3, Value.int .u8 5] 5)) := hb10.alloc hb10.size _
  generalize w10.alloc (Obj.cells #[Value.int .u8 17, Value.int .u8 1, Value.int .u8 2, Value.int .u8 2, Value.int .u8 1, Value.int .u8 3, Value.int .u8 5] 5) = w11 at *
  generalize w10.heap.size = g5 at *
  refine hK.out _ _ (ES.out _ hb11) (fun hHeld => ?_)
  clear hK K
  try simp only [List.getElem_cons_succ, List.getElem_cons_zero, Act.put, List.setIfInBounds_toArray, List.set_cons_zero, List.set_cons_succ]
  obtain ⟨cap, w12, ra, G12, b12⟩ := run_app_zeros w11 g5 [17, 1, 2, 2, 1, 3, 5] 7 32 28 rfl C11 (by simp) (by omega) (by omega)
  have hb12 : Below w9.heap.size w9 w12 := hb11.trans (b12.mono hb11.size)
  generalize w11.heap.size = g6 at *
  refine ready_at 4 (by kernel_rfl) (by kernel_rfl) (fun K hK => ?_)
  simp only [List.getElem_cons_succ, List.getElem_cons_zero]
  rw [if_pos (by rfl)]
  refine Lib.wp_append_run _ (.tmp 25) (.const (.int .i64 32)) 28 3 rfl _ _ rfl rfl _ _ ra ?_
  refine hK.out _ _ (ES.out _ hb12) (fun hHeld => ?_)
  clear hK K
  try simp only [List.getElem_cons_succ, List.getElem_cons_zero, Act.put, List.setIfInBounds_toArray, List.set_cons_zero, List.set_cons_succ]
  refine ready_at 5 (by kernel_rfl) (by kernel_rfl) (fun K hK => ?_)
  simp only [List.getElem_cons_succ, List.getElem_cons_zero]
  go_simp
  go_at_call 9
  refine (within_any Wr F ackN NHd.none_ ackB 39 _ _ _ (ngood_flat ack_ok rfl rfl rfl) ack_check ack_inner rfl G12).mono ?_
  rintro e w13 ⟨rfl, b13⟩
  have hb13 : Below w9.heap.size w9 w13 := hb12.trans (b13.mono hb12.size)
  (try go_wp2_with fail)
  refine hK.out _ _ (ES.out _ hb13) (fun hHeld => ?_)
  clear hK K
  try simp only [List.getElem_cons_succ, List.getElem_cons_zero, Act.put, List.setIfInBounds_toArray, List.set_cons_zero, List.set_cons_succ]
  refine take_at 6 (by kernel_rfl) (v := ?v3) (by kernel_rfl) (by kernel_rfl) (by kernel_rfl) (fun _ _ _ h => h) (by rfl) ?y3 (by assumption) ?r3
  case y3 => (intro w hSw; (try dsimp only at hSw); simp only [List.getElem_cons_succ, List.getElem_cons_zero]; go_simp; (try with_reducible rfl))
  try simp only [List.getElem_cons_succ, List.getElem_cons_zero, Act.put, List.setIfInBounds_toArray, List.set_cons_zero, List.set_cons_succ]
  refine take_at 7 (by kernel_rfl) (v := ?v4) (by kernel_rfl) (by kernel_rfl) (by kernel_rfl) (fun _ _ _ h => h) (by rfl) ?y4 (by assumption) ?r4
  case y4 => (intro w hSw; (try dsimp only at hSw); simp only [List.getElem_cons_succ, List.getElem_cons_zero]; go_simp; (try with_reducible rfl))
  try simp only [List.getElem_cons_succ, List.getElem_cons_zero, Act.put, List.setIfInBounds_toArray, List.set_cons_zero, List.set_cons_succ]
  refine take_at 8 (by kernel_rfl) (v := ?v5) (by kernel_rfl) (by kernel_rfl) (by kernel_rfl) (fun _ _ _ h => h) (by rfl) ?y5 (by assumption) ?r5
  case y5 => (intro w hSw; (try dsimp only at hSw); simp only [List.getElem_cons_succ, List.getElem_cons_zero]; go_simp; (try with_reducible rfl))
  try simp only [List.getElem_cons_succ, List.getElem_cons_zero, Act.put, List.setIfInBounds_toArray, List.set_cons_zero, List.set_cons_succ]
  refine ready_at 9 (by kernel_rfl) (by kernel_rfl) (fun K hK => ?_)
  simp only [List.getElem_cons_succ, List.getElem_cons_zero]
  go_simp
  go_at_call 10
  refine (Wr.check tellN (tellH (g2 + 1)) _ (tell_good (D9.out.below hb13 D9.out.lt)) ⟨by simp [tellN], by simp [tellN, learnN, none_], by simp [tellN, learnN, none_]⟩).mono ?_
  rw [tell_check]
  rintro e w14 ⟨rfl, b14⟩
  have hb14 : Below w9.heap.size w9 w14 := hb13.trans (b14.mono hb13.size)
  (try go_wp2_with fail)
  refine hK.out _ _ (ES.out _ hb14) (fun hHeld => ?_)
  clear hK K
  try simp only [List.getElem_cons_succ, List.getElem_cons_zero, Act.put, List.setIfInBounds_toArray, List.set_cons_zero, List.set_cons_succ]
  refine take_at 10 (by kernel_rfl) (v := ?v6) (by kernel_rfl) (by kernel_rfl) (by kernel_rfl) (fun _ _ _ h => h) (by rfl) ?y6 (by assumption) ?r6
  case y6 => (intro w hSw; (try dsimp only at hSw); simp only [List.getElem_cons_succ, List.getElem_cons_zero]; go_simp; (try with_reducible rfl))
  try simp only [List.getElem_cons_succ, List.getElem_cons_zero, Act.put, List.setIfInBounds_toArray, List.set_cons_zero, List.set_cons_succ]
  refine take_at 11 (by kernel_rfl) (v := ?v7) (by kernel_rfl) (by kernel_rfl) (by kernel_rfl) (fun _ _ _ h => h) (by rfl) ?y7 (by assumption) ?r7
  case y7 => (intro w hSw; (try dsimp only at hSw); simp only [List.getElem_cons_succ, List.getElem_cons_zero]; go_simp; (try with_reducible rfl))
  try simp only [List.getElem_cons_succ, List.getElem_cons_zero, Act.put, List.setIfInBounds_toArray, List.set_cons_zero, List.set_cons_succ]
  refine take_at 12 (by kernel_rfl) (v := ?v8) (by kernel_rfl) (by kernel_rfl) (by kernel_rfl) (fun _ _ _ h => h) (by rfl) ?y8 (by assumption) ?r8
  case y8 => (intro w hSw; (try dsimp only at hSw); simp only [List.getElem_cons_succ, List.getElem_cons_zero]; go_simp; (try with_reducible rfl))
  try simp only [List.getElem_cons_succ, List.getElem_cons_zero, Act.put, List.setIfInBounds_toArray, List.set_cons_zero, List.set_cons_succ]
  refine take_at 13 (by kernel_rfl) (v := ?v9) (by kernel_rfl) (by kernel_rfl) (by kernel_rfl) (fun _ _ _ h => h) (by rfl) ?y9 (by assumption) ?r9
  case y9 => (intro w hSw; (try dsimp only at hSw); simp only [List.getElem_cons_succ, List.getElem_cons_zero]; go_simp; (try with_reducible rfl))
  try simp only [List.getElem_cons_succ, List.getElem_cons_zero, Act.put, List.setIfInBounds_toArray, List.set_cons_zero, List.set_cons_succ]
  refine ready_at 14 (by kernel_rfl) (by kernel_rfl) (fun K hK => ?_)
  simp only [List.getElem_cons_succ, List.getElem_cons_zero]
  go_simp
  go_at_call 10
  refine (Wr.check pingN NHd.none_ _ (ngood_flat ping_ok rfl rfl rfl) (few_flat rfl rfl rfl)).mono ?_
  rw [ping_check]
  rintro e w15 ⟨rfl, b15⟩
  have hb15 : Below w9.heap.size w9 w15 := hb14.trans (b15.mono hb14.size)
  (try go_wp2_with fail)
  refine hK.out _ _ (ES.out _ hb15) (fun hHeld => ?_)
  clear hK K
  try simp only [List.getElem_cons_succ, List.getElem_cons_zero, Act.put, List.setIfInBounds_toArray, List.set_cons_zero, List.set_cons_succ]
  refine take_at 15 (by kernel_rfl) (v := ?v10) (by kernel_rfl) (by kernel_rfl) (by kernel_rfl) (fun _ _ _ h => h) (by rfl) ?y10 (by assumption) ?r10
  case y10 => (intro w hSw; (try dsimp only at hSw); simp only [List.getElem_cons_succ, List.getElem_cons_zero]; go_simp; (try with_reducible rfl))
  try simp only [List.getElem_cons_succ, List.getElem_cons_zero, Act.put, List.setIfInBounds_toArray, List.set_cons_zero, List.set_cons_succ]
  refine take_at 16 (by kernel_rfl) (v := ?v11) (by kernel_rfl) (by kernel_rfl) (by kernel_rfl) (fun _ _ _ h => h) (by rfl) ?y11 (by assumption) ?r11
  case y11 => (intro w hSw; (try dsimp only at hSw); simp only [List.getElem_cons_succ, List.getElem_cons_zero]; go_simp; (try with_reducible rfl))
  try simp only [List.getElem_cons_succ, List.getElem_cons_zero, Act.put, List.setIfInBounds_toArray, List.set_cons_zero, List.set_cons_succ]
  refine take_at 17 (by kernel_rfl) (v := ?v12) (by kernel_rfl) (by kernel_rfl) (by kernel_rfl) (fun _ _ _ h => h) (by rfl) ?y12 (by assumption) ?r12
  case y12 => (intro w hSw; (try dsimp only at hSw); simp only [List.getElem_cons_succ, List.getElem_cons_zero]; go_simp; (try with_reducible rfl))
  try simp only [List.getElem_cons_succ, List.getElem_cons_zero, Act.put, List.setIfInBounds_toArray, List.set_cons_zero, List.set_cons_succ]
  refine take_at 18 (by kernel_rfl) (v := ?v13) (by kernel_rfl) (by kernel_rfl) (by kernel_rfl) (fun _ _ _ h => h) (by rfl) ?y13 (by assumption) ?r13
  case y13 => (intro w hSw; (try dsimp only at hSw); simp only [List.getElem_cons_succ, List.getElem_cons_zero]; go_simp; (try with_reducible rfl))
  try simp only [List.getElem_cons_succ, List.getElem_cons_zero, Act.put, List.setIfInBounds_toArray, List.set_cons_zero, List.set_cons_succ]
  refine ready_at 19 (by kernel_rfl) (by kernel_rfl) (fun K hK => ?_)
  simp only [List.getElem_cons_succ, List.getElem_cons_zero]
  go_simp
  go_at_call 10
  refine (Wr.check oddN NHd.none_ _ (ngood_flat odd_ok rfl rfl rfl) (few_flat rfl rfl rfl)).mono ?_
  rw [odd_check]
  rintro e w16 ⟨rfl, b16⟩
  have hb16 : Below w9.heap.size w9 w16 := hb15.trans (b16.mono hb15.size)
  (try go_wp2_with fail)
  refine hK.out _ _ (ES.out _ hb16) (fun hHeld => ?_)
  clear hK K
  try simp only [List.getElem_cons_succ, List.getElem_cons_zero, Act.put, List.setIfInBounds_toArray, List.set_cons_zero, List.set_cons_succ]
  refine take_at 20 (by kernel_rfl) (v := ?v14) (by kernel_rfl) (by kernel_rfl) (by kernel_rfl) (fun _ _ _ h => h) (by rfl) ?y14 (by assumption) ?r14
  case y14 => (intro w hSw; (try dsimp only at hSw); simp only [List.getElem_cons_succ, List.getElem_cons_zero]; go_simp; (try with_reducible rfl))
  try simp only [List.getElem_cons_succ, List.getElem_cons_zero, Act.put, List.setIfInBounds_toArray, List.set_cons_zero, List.set_cons_succ]
  refine take_at 21 (by kernel_rfl) (v := ?v15) (by kernel_rfl) (by kernel_rfl) (by kernel_rfl) (fun _ _ _ h => h) (by rfl) ?y15 (by assumption) ?r15
  case y15 => (intro w hSw; (try dsimp only at hSw); simp only [List.getElem_cons_succ, List.getElem_cons_zero]; go_simp; (try with_reducible rfl))
  try simp only [List.getElem_cons_succ, List.getElem_cons_zero, Act.put, List.setIfInBounds_toArray, List.set_cons_zero, List.set_cons_succ]
  refine take_at 22 (by kernel_rfl) (v := ?v16) (by kernel_rfl) (by kernel_rfl) (by kernel_rfl) (fun _ _ _ h => h) (by rfl) ?y16 (by assumption) ?r16
  case y16 => (intro w hSw; (try dsimp only at hSw); simp only [List.getElem_cons_succ, List.getElem_cons_zero]; go_simp; (try with_reducible rfl))
  try simp only [List.getElem_cons_succ, List.getElem_cons_zero, Act.put, List.setIfInBounds_toArray, List.set_cons_zero, List.set_cons_succ]
  refine take_at 23 (by kernel_rfl) (v := ?v17) (by kernel_rfl) (by kernel_rfl) (by kernel_rfl) (fun _ _ _ h => h) (by rfl) ?y17 (by assumption) ?r17
  case y17 => (intro w hSw; (try dsimp only at hSw); simp only [List.getElem_cons_succ, List.getElem_cons_zero]; go_simp; (try with_reducible rfl))
  try simp only [List.getElem_cons_succ, List.getElem_cons_zero, Act.put, List.setIfInBounds_toArray, List.set_cons_zero, List.set_cons_succ]
  refine take_at 24 (by kernel_rfl) (v := ?v18) (by kernel_rfl) (by kernel_rfl) (by kernel_rfl) (fun _ _ _ h => h) (by rfl) ?y18 (by assumption) ?r18
  case y18 => (intro w hSw; (try dsimp only at hSw); simp only [List.getElem_cons_succ, List.getElem_cons_zero]; go_simp; (try with_reducible rfl))
  try simp only [List.getElem_cons_succ, List.getElem_cons_zero, Act.put, List.setIfInBounds_toArray, List.set_cons_zero, List.set_cons_succ]
  refine take_at 25 (by kernel_rfl) (v := ?v19) (by kernel_rfl) (by kernel_rfl) (by kernel_rfl) (fun _ _ _ h => h) (by rfl) ?y19 (by assumption) ?r19
  case y19 => (intro w hSw; (try dsimp only at hSw); simp only [List.getElem_cons_succ, List.getElem_cons_zero]; go_simp; (try with_reducible rfl))
  try simp only [List.getElem_cons_succ, List.getElem_cons_zero, Act.put, List.setIfInBounds_toArray, List.set_cons_zero, List.set_cons_succ]
  refine take_at 26 (by kernel_rfl) (v := ?v20) (by kernel_rfl) (by kernel_rfl) (by kernel_rfl) (fun _ _ _ h => h) (by rfl) ?y20 (by assumption) ?r20
  case y20 => (intro w hSw; (try dsimp only at hSw); simp only [List.getElem_cons_succ, List.getElem_cons_zero]; go_simp; (try with_reducible rfl))
  try simp only [List.getElem_cons_succ, List.getElem_cons_zero, Act.put, List.setIfInBounds_toArray, List.set_cons_zero, List.set_cons_succ]
  refine wpAnyH_done (by kernel_rfl) ?_ _
  go_wp2_with fail
  go_ret
  exact ⟨rfl, B9.out.trans (hb16.mono B9.out.size)⟩
end
end
end Go.Proofs.Yteepaoklibflpaa
