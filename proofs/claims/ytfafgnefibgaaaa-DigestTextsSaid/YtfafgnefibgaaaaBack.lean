/-
  The law package's DigestBack: text of an id is got as it; a text that is got is its id's.
-/
import Derived.Test.YtfafgnefibgaaaaKnown
namespace Go.Proofs.Ytfafgnefibgaaaa
set_option linter.unusedSimpArgs false
set_option linter.unusedVariables false
open Go.RowKit Go.Maps Sha
theorem nums_strOfNums (l : List Int) (h : Bytes l) : nums (strOfNums l) = l := by
  unfold nums
  rw [strOfNums_data, List.map_map]
  have : ∀ n ∈ l, ((fun b : UInt8 => (b.toNat : Int)) ∘ fun n : Int => UInt8.ofNat n.toNat) n = n := by
    intro n hn
    have := h n hn
    simp only [Function.comp, UInt8.toNat_ofNat']
    omega
  exact (List.map_congr_left this).trans (List.map_id' _)
theorem text_bytes (zs : List Int) (hl : zs.length = 32) (hb : Bytes zs) : Bytes (text zs) := by
  intro n hn
  rw [text_of zs hl] at hn
  exact (textOf_dig zs hb n hn).2
theorem text_size (zs : List Int) (hl : zs.length = 32) (hb : Bytes zs) : (strOfNums (text zs)).size ≤ maxLen := by
  have h2 : (text zs).length = 64 := by rw [text_of zs hl, textOf_length]; omega
  have h3 : (nums (strOfNums (text zs))).length = 64 := by rw [nums_strOfNums _ (text_bytes zs hl hb)]; exact h2
  rw [nums_length] at h3
  unfold maxLen; omega
section
variable {P : Program} {o : Oper} {a : Act} {w : World} {Q : Exit → Act → World → Prop} {K : Act → World → Prop}
theorem wp_neq_self (t : TypeId) (x y : Operand) (r : TypeId) (ho : o.op = .binOp .neq t x y r) (e : TypeId) (n : Nat) (k : IntKind) (hu : P.underlying t = some (.array n e)) (hue : P.underlying e = some (.int k)) (he : (P.info? e).map (fun i => i.size) = some 1)
    (xs : List Int) (hx : a.eval x = .agg (xs.map (Value.int k)).toArray) (hy : a.eval y = .agg (xs.map (Value.int k)).toArray) (hxl : xs.length = n) (h : K (a.put o.dst (.bool false)) w) : o.wp P a w K Q :=
  wp_neq_arr t x y r ho e n k hu hue he xs xs hx hy hxl hxl (by simpa using h)
theorem wp_eql_self (t : TypeId) (x y : Operand) (r : TypeId) (ho : o.op = .binOp .eql t x y r) (e : TypeId) (n : Nat) (k : IntKind) (hu : P.underlying t = some (.array n e)) (hue : P.underlying e = some (.int k)) (he : (P.info? e).map (fun i => i.size) = some 1)
    (xs : List Int) (hx : a.eval x = .agg (xs.map (Value.int k)).toArray) (hy : a.eval y = .agg (xs.map (Value.int k)).toArray) (hxl : xs.length = n) (h : K (a.put o.dst (.bool true)) w) : o.wp P a w K Q :=
  wp_eql_arr t x y r ho e n k hu hue he xs xs hx hy hxl hxl (by simpa using h)
end
theorem get_of_text (zs : List Int) (hl : zs.length = 32) (hb : Bytes zs) : getOf (nums (strOfNums (text zs))) = some zs := by
  rw [nums_strOfNums _ (text_bytes zs hl hb)]; exact get_text zs hl hb
theorem text_of_get (s : ByteArray) (zs : List Int) (h : getOf (nums s) = some zs) : strOfNums (text zs) = s := by
  rw [text_get (nums s) zs (nums_bd s) h, strOfNums_nums]
theorem wp_build' {P : Program} {o : Oper} {a : Act} {w : World} {Q : Exit → Act → World → Prop} {K : Act → World → Prop} (t : TypeId) (parts : Array (Nat × Operand)) (ho : o.op = .build t parts) (cs : Array Value)
    (hf : P.built t (parts.map fun (i, x) => (i, a.eval x)).toList = some cs)
    (h : K (a.put o.dst (.agg cs)) w) : o.wp P a w K Q :=
  wp_build t parts ho (by rw [hf]; rfl) (by rw [hf]; exact h)
set_option maxRecDepth 100000 in
set_option maxHeartbeats 2000000 in
theorem back_long (xs : List Int) (s : ByteArray) (w : World) (hx : xs.length = 32) (bx : Bytes xs) (hm : s.size ≤ maxLen) (hs : 100 < s.size) :
    Calls Try.prog 6 #[.agg (xs.map v8).toArray, .string s] w fun e w' => e = .returned (.bool true) ∧ Below w.heap.size w w' := by
  have hszx : (Try.prog.info? 26).map (fun i => i.size) = some (xs.map v8).toArray.size := by rw [size26]; simp [hx]
  have hsz0 : (zero32.map v8).toArray.size = (xs.map v8).toArray.size := by simp [zero32_length, hx]
  have HT := Lib.hid (get_of_text xs hx bx)
  have HTS := Lib.hid (text_size xs hx bx)
  have Hx := Lib.hid hx
  have Bx := Lib.hid bx
  have HM := Lib.hid hm
  clear hx bx hm
  have t1 : decide ((100 : Int) < (s.size : Int)) = true := by simp; omega
  go_enter Try.func6, Try.ntmps6
  go_wp2_with (first
    | (refine wpList_box_arr rfl 26 _ rfl _ rfl ?_)
    | (go_at_call 5; refine (known_any _).mono ?_; rintro e w1 ⟨rfl, hb1⟩; have B1 := Lib.hid ((Blk.new w (xs.map v8).toArray 26).on hb1); have Q1 := Lib.hid (below_on ((Below.refl _ w).alloc (Nat.le_refl _) (.cells (xs.map v8).toArray 26)) hb1))
    | (refine wpList_load_row rfl 26 (.tmp 2) rfl _ rfl _ _ _ _ B1.out (Try.underlying26) rfl hszx ?_)
    | (go_at_call 15; refine (text_any xs w1 Hx.out Bx.out).mono ?_; rintro e w2 ⟨rfl, hb2⟩)
    | (go_at_call 13; refine (get_some _ xs w2 HTS.out HT.out).mono ?_; rintro e w3 ⟨rfl, hb3⟩; have B3 := Lib.hid ((B1.out.on hb2).on hb3); have Q3 := Lib.hid (below_on (below_on Q1.out hb2) hb3))
    | (refine wpList_alloc_arr rfl 26 rfl _ info26 ?_)
    | (refine wpList_store_row rfl 26 (.tmp 6) (.tmp 15) rfl _ _ rfl rfl _ _ (Blk.new w3 _ _) hszx hsz0 (one8 _) ?_
       have QA := Lib.hid (below_on Q3.out (Below.setRow ((Below.refl w3.heap.size w3).alloc (Nat.le_refl _) (.cells (zero32.map v8).toArray 26)) (Nat.le_refl _) (xs.map v8).toArray))
       have BA := Lib.hid ((B3.out.old (.cells (zero32.map v8).toArray 26)).rowOther (xs.map v8).toArray (Nat.ne_of_lt B3.out.lt))
       have BB := Lib.hid ((Blk.new w3 (zero32.map v8).toArray 26).row (xs.map v8))
       obtain ⟨wa, hwa⟩ : ∃ wa, wa = (w3.alloc (.cells (zero32.map v8).toArray 26)).setRow w3.heap.size (xs.map v8).toArray := ⟨_, rfl⟩
       rw [← hwa] at QA BA BB ⊢
       clear hwa)
    | (refine BigFrame.wpList_want rfl (fun K hK => wp_load_row 26 (.tmp 6) rfl _ rfl _ _ _ _ BB.out (Try.underlying26) rfl hszx (hK _ _ ?_)))
    | (refine BigFrame.wpList_want rfl (fun K hK => wp_load_row 26 (.tmp 2) rfl _ rfl _ _ _ _ BA.out (Try.underlying26) rfl hszx (hK _ _ ?_)))
    | (refine BigFrame.wpList_want rfl (fun K hK => wp_neq_self 26 (.tmp 20) (.tmp 21) _ rfl 5 32 .u8 Try.underlying26 Try.underlying5 byte1 xs rfl rfl Hx.out (hK _ _ ?_)))
    | (refine BigFrame.wpList_want rfl (fun K hK => wp_eql_self 26 (.tmp 35) (.tmp 36) _ rfl 5 32 .u8 Try.underlying26 Try.underlying5 byte1 xs rfl rfl Hx.out (hK _ _ ?_))))
  go_ret
  exact ⟨rfl, QA.out⟩
end Go.Proofs.Ytfafgnefibgaaaa
