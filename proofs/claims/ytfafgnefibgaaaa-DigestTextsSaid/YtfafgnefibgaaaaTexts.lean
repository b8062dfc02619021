/-
  The law package's DigestTexts: the program's answers beside the reference's.
-/
import Derived.Test.YtfafgnefibgaaaaRefT
import Derived.Test.YtfafgnefibgaaaaRefG
import Derived.Test.YtfafgnefibgaaaaBack
namespace Go.Proofs.Ytfafgnefibgaaaa
set_option linter.unusedSimpArgs false
set_option linter.unusedVariables false
open Go.RowKit Go.Maps Sha
theorem get_pair (s : ByteArray) (zs : List Int) (er : Int) (w : World) (hm : s.size ≤ maxLen) (hz : (getOf (nums s)).getD zero32 = zs) (he : getErr (getOf (nums s)) = er) :
    Calls Try.prog 13 #[.string s] w fun e w' => e = .returned (.tuple #[.agg (zs.map v8).toArray, .int .i64 er]) ∧ Below w.heap.size w w' :=
  (get_any s w hm).mono fun _ _ ⟨h, hb⟩ => ⟨by rw [h, ← hz, ← he]; rfl, hb⟩
theorem rget_pair (s : ByteArray) (zs : List Int) (er : Int) (w : World) (hm : s.size ≤ maxLen) (hz : (getOf (nums s)).getD zero32 = zs) (he : getErr (getOf (nums s)) = er) :
    Calls Try.prog 14 #[.string s] w fun e w' => e = .returned (.tuple #[.agg (zs.map v8).toArray, .int .i64 er]) ∧ Below w.heap.size w w' :=
  (rget_any s w hm).mono fun _ _ ⟨h, hb⟩ => ⟨by rw [h, ← hz, ← he]; rfl, hb⟩
theorem pair_length (s : ByteArray) : ((getOf (nums s)).getD zero32).length = 32 := by
  cases h : getOf (nums s) with
  | none => exact zero32_length
  | some zs => exact getOf_length _ _ h
section
variable {P : Program} {ops : Array Oper} {o : Oper} {a : Act} {C : World → Prop} {K : Act → Prop}
theorem quiet_eql_self (t : TypeId) (x y : Operand) (r : TypeId) (ho : o.op = .binOp .eql t x y r) (e : TypeId) (n : Nat) (k : IntKind) (hu : P.underlying t = some (.array n e)) (hue : P.underlying e = some (.int k)) (he : (P.info? e).map (fun i => i.size) = some 1)
    (xs : List Int) (hx : a.eval x = .agg (xs.map (Value.int k)).toArray) (hy : a.eval y = .agg (xs.map (Value.int k)).toArray) (hxl : xs.length = n)
    (h : K (a.put o.dst (.bool true))) : o.quiet P a C K :=
  quiet_eql_arr t x y r ho e n k hu hue he xs xs hx hy hxl hxl (by simpa using h)
end
set_option maxRecDepth 100000 in
set_option maxHeartbeats 2000000 in
theorem texts_long (xs ys : List Int) (s : ByteArray) (w : World) (hx : xs.length = 32) (hy : ys.length = 32) (hs : 100 < s.size) :
    Calls Try.prog 4 #[.agg (xs.map v8).toArray, .agg (ys.map v8).toArray, .string s] w fun e w' => e = .returned (.bool true) ∧ Below w.heap.size w w' := by
  have t1 : decide ((100 : Int) < (s.size : Int)) = true := by simp; omega
  have HB := Lib.hid (((Below.refl w.heap.size w).alloc (by simp) (Obj.cells (xs.map v8).toArray 26)).alloc (by simp) (Obj.cells (ys.map v8).toArray 26))
  go_enter Try.func4, Try.ntmps4
  go_wp2_with (first
    | (refine wpList_box_arr rfl 26 _ rfl _ rfl ?_)
    | (go_at_call 8; refine (awake_any _).mono ?_; rintro e w1 ⟨rfl, hb1⟩))
  go_ret
  exact ⟨rfl, below_on HB.out hb1⟩
set_option maxRecDepth 100000 in
set_option maxHeartbeats 4000000 in
theorem texts_short (xs ys : List Int) (s : ByteArray) (w : World) (hx : xs.length = 32) (hy : ys.length = 32) (bx : Bytes xs) (by_ : Bytes ys) (hm : s.size ≤ maxLen) (hs : ¬ 100 < s.size) :
    Calls Try.prog 4 #[.agg (xs.map v8).toArray, .agg (ys.map v8).toArray, .string s] w fun e w' => e = .returned (.bool true) ∧ Below w.heap.size w w' := by
  have t1 : decide ((100 : Int) < (s.size : Int)) = false := by simp; omega
  have hszx : (Try.prog.info? 26).map (fun i => i.size) = some (xs.map v8).toArray.size := by rw [size26]; simp [hx]
  have hszy : (Try.prog.info? 26).map (fun i => i.size) = some (ys.map v8).toArray.size := by rw [size26]; simp [hy]
  obtain ⟨zs, hzs⟩ : ∃ zs, (getOf (nums s)).getD zero32 = zs := ⟨_, rfl⟩
  obtain ⟨er, her⟩ : ∃ er, getErr (getOf (nums s)) = er := ⟨_, rfl⟩
  have hzl := pair_length s
  rw [hzs] at hzl
  have hszz : (Try.prog.info? 26).map (fun i => i.size) = some (zs.map v8).toArray.size := by rw [size26]; simp [hzl]
  have hsz0 : (zero32.map v8).toArray.size = (zs.map v8).toArray.size := by simp [zero32_length, hzl]
  have Hx := Lib.hid hx
  have Hy := Lib.hid hy
  have Hz := Lib.hid hzl
  have Bx := Lib.hid bx
  have By := Lib.hid by_
  have HM := Lib.hid hm
  have HZ := Lib.hid hzs
  have HE := Lib.hid her
  clear hx hy bx by_ hm hzs her hzl
  go_enter Try.func4, Try.ntmps4
  go_wp2_with (first
    | (refine wpList_box_arr rfl 26 _ rfl _ rfl ?_)
    | (go_at_call 13; refine (get_pair s zs er _ HM.out HZ.out HE.out).mono ?_; rintro e w1 ⟨rfl, hb1⟩
       have Q1 := Lib.hid (below_on (((Below.refl w.heap.size w).alloc (by simp) (Obj.cells (xs.map v8).toArray 26)).alloc (by simp) (Obj.cells (ys.map v8).toArray 26)) hb1)
       have X1 := Lib.hid (((Blk.new w (xs.map v8).toArray 26).old (Obj.cells (ys.map v8).toArray 26)).on hb1)
       have Y1 : Hid (Blk w1 (w.heap.size + 1) (ys.map v8) 26) := by
         have h := (Blk.new (w.alloc (Obj.cells (xs.map v8).toArray 26)) (ys.map v8).toArray 26).on hb1
         rw [World.size_alloc] at h
         exact Lib.hid h)
    | (go_at_call 14; refine (rget_pair s zs er wa HM.out HZ.out HE.out).mono ?_; rintro e w4 ⟨rfl, hb4⟩
       have Q4 := Lib.hid (below_on QA.out hb4)
       have X4 := Lib.hid (XA.out.on hb4)
       have Y4 := Lib.hid (YA.out.on hb4)
       have Z4 := Lib.hid (ZA.out.on hb4))
    | (refine wpList_alloc_arr rfl 26 rfl _ info26 ?_)
    | (refine wpList_store_row rfl 26 (.tmp 7) (.tmp 18) rfl _ _ rfl rfl _ _ (Blk.new w1 _ _) hszz hsz0 (one8 _) ?_
       have QA := Lib.hid (below_on Q1.out (Below.setRow ((Below.refl w1.heap.size w1).alloc (Nat.le_refl _) (.cells (zero32.map v8).toArray 26)) (Nat.le_refl _) (zs.map v8).toArray))
       have XA := Lib.hid ((X1.out.old (.cells (zero32.map v8).toArray 26)).rowOther (zs.map v8).toArray (Nat.ne_of_lt X1.out.lt))
       have YA := Lib.hid ((Y1.out.old (.cells (zero32.map v8).toArray 26)).rowOther (zs.map v8).toArray (Nat.ne_of_lt Y1.out.lt))
       have ZA := Lib.hid ((Blk.new w1 (zero32.map v8).toArray 26).row (zs.map v8))
       obtain ⟨wa, hwa⟩ : ∃ wa, wa = (w1.alloc (.cells (zero32.map v8).toArray 26)).setRow w1.heap.size (zs.map v8).toArray := ⟨_, rfl⟩
       rw [← hwa] at QA XA YA ZA ⊢
       clear hwa)
    | (refine wpList_store_row rfl 26 (.tmp 9) (.tmp 23) rfl _ _ rfl rfl _ _ (Blk.new w4 _ _) hszz hsz0 (one8 _) ?_
       have QB := Lib.hid (below_on Q4.out (Below.setRow ((Below.refl w4.heap.size w4).alloc (Nat.le_refl _) (.cells (zero32.map v8).toArray 26)) (Nat.le_refl _) (zs.map v8).toArray))
       have M0 := Lib.hid ((X4.out.old (.cells (zero32.map v8).toArray 26)).rowOther (zs.map v8).toArray (Nat.ne_of_lt X4.out.lt))
       have M1 := Lib.hid ((Y4.out.old (.cells (zero32.map v8).toArray 26)).rowOther (zs.map v8).toArray (Nat.ne_of_lt Y4.out.lt))
       have Z0 := Lib.hid ((Z4.out.old (.cells (zero32.map v8).toArray 26)).rowOther (zs.map v8).toArray (Nat.ne_of_lt Z4.out.lt))
       have Z1 := Lib.hid ((Blk.new w4 (zero32.map v8).toArray 26).row (zs.map v8))
       obtain ⟨wb, hwb⟩ : ∃ wb, wb = (w4.alloc (.cells (zero32.map v8).toArray 26)).setRow w4.heap.size (zs.map v8).toArray := ⟨_, rfl⟩
       rw [← hwb] at QB M0 M1 Z0 Z1 ⊢
       clear hwb))
  clear Q1 X1 Y1 hb1 QA XA YA ZA Q4 X4 Y4 Z4 hb4
  refine region_grown (by kernel_rfl) (by kernel_rfl) ?_
  (go_big_quiet_want; refine quiet_load_mid 26 _ rfl _ _ rfl _ _ (fun w' hw' => (M0.out.below hw' M0.out.lt).range) Try.underlying26 rfl (by simpa using hszx) ?_; simp only [Act.put, List.setIfInBounds_toArray, List.set_cons_zero, List.set_cons_succ, List.getElem_toArray, List.getElem_cons_succ, List.getElem_cons_zero]; go_big_quiet_on)
  (go_big_quiet_want; go_big_quiet_op; refine ⟨_, fun w' hw' => (text_any xs w' Hx.out Bx.out).mono (fun e w'' ⟨he, hb⟩ => ⟨he, hw'.trans (hb.mono hw'.size)⟩), ?_⟩; go_big_quiet_on)
  (go_big_quiet_want; refine quiet_load_mid 26 _ rfl _ _ rfl _ _ (fun w' hw' => (M0.out.below hw' M0.out.lt).range) Try.underlying26 rfl (by simpa using hszx) ?_; simp only [Act.put, List.setIfInBounds_toArray, List.set_cons_zero, List.set_cons_succ, List.getElem_toArray, List.getElem_cons_succ, List.getElem_cons_zero]; go_big_quiet_on)
  (go_big_quiet_want; go_big_quiet_op; refine ⟨_, fun w' hw' => (rtext_any xs w' Hx.out Bx.out).mono (fun e w'' ⟨he, hb⟩ => ⟨he, hw'.trans (hb.mono hw'.size)⟩), ?_⟩; go_big_quiet_on)
  iterate 2 ((first | go_big_quiet_skip | (go_big_quiet_want; go_big_quiet_op; first | go_big_quiet_on | (refine ⟨_, fun _ _ => rfl, ?_⟩; try go_simp; go_big_quiet_on))))
  (go_big_quiet_want; refine quiet_load_mid 26 _ rfl _ _ rfl _ _ (fun w' hw' => (Z0.out.below hw' Z0.out.lt).range) Try.underlying26 rfl (by simpa using hszz) ?_; simp only [Act.put, List.setIfInBounds_toArray, List.set_cons_zero, List.set_cons_succ, List.getElem_toArray, List.getElem_cons_succ, List.getElem_cons_zero]; go_big_quiet_on)
  (go_big_quiet_want; refine quiet_load_mid 26 _ rfl _ _ rfl _ _ (fun w' hw' => (Z1.out.below hw' Z1.out.lt).range) Try.underlying26 rfl (by simpa using hszz) ?_; simp only [Act.put, List.setIfInBounds_toArray, List.set_cons_zero, List.set_cons_succ, List.getElem_toArray, List.getElem_cons_succ, List.getElem_cons_zero]; go_big_quiet_on)
  (go_big_quiet_want; refine quiet_eql_self 26 _ _ _ rfl 5 32 .u8 Try.underlying26 Try.underlying5 byte1 zs rfl rfl Hz.out ?_; simp only [Act.put, List.setIfInBounds_toArray, List.set_cons_zero, List.set_cons_succ, List.getElem_toArray, List.getElem_cons_succ, List.getElem_cons_zero]; go_big_quiet_on)
  iterate 2 ((first | go_big_quiet_skip | (go_big_quiet_want; go_big_quiet_op; first | go_big_quiet_on | (refine ⟨_, fun _ _ => rfl, ?_⟩; try go_simp; go_big_quiet_on))))
  iterate 5 ((first | go_big_quiet_skip | (go_big_quiet_want; go_big_quiet_op; first | go_big_quiet_on | (refine ⟨_, fun _ _ => rfl, ?_⟩; try go_simp; go_big_quiet_on))))
  (go_big_quiet_want; refine quiet_load_mid 26 _ rfl _ _ rfl _ _ (fun w' hw' => (M0.out.below hw' M0.out.lt).range) Try.underlying26 rfl (by simpa using hszx) ?_; simp only [Act.put, List.setIfInBounds_toArray, List.set_cons_zero, List.set_cons_succ, List.getElem_toArray, List.getElem_cons_succ, List.getElem_cons_zero]; go_big_quiet_on)
  (go_big_quiet_want; refine quiet_load_mid 26 _ rfl _ _ rfl _ _ (fun w' hw' => (M1.out.below hw' M1.out.lt).range) Try.underlying26 rfl (by simpa using hszy) ?_; simp only [Act.put, List.setIfInBounds_toArray, List.set_cons_zero, List.set_cons_succ, List.getElem_toArray, List.getElem_cons_succ, List.getElem_cons_zero]; go_big_quiet_on)
  (go_big_quiet_want; go_big_quiet_op; refine ⟨_, fun w' hw' => (less_b xs ys (less xs ys) w' rfl Hx.out Hy.out Bx.out By.out).mono (fun e w'' ⟨he, hb⟩ => ⟨he, hw'.trans (hb.mono hw'.size)⟩), ?_⟩; go_big_quiet_on)
  (go_big_quiet_want; refine quiet_load_mid 26 _ rfl _ _ rfl _ _ (fun w' hw' => (M0.out.below hw' M0.out.lt).range) Try.underlying26 rfl (by simpa using hszx) ?_; simp only [Act.put, List.setIfInBounds_toArray, List.set_cons_zero, List.set_cons_succ, List.getElem_toArray, List.getElem_cons_succ, List.getElem_cons_zero]; go_big_quiet_on)
  (go_big_quiet_want; refine quiet_load_mid 26 _ rfl _ _ rfl _ _ (fun w' hw' => (M1.out.below hw' M1.out.lt).range) Try.underlying26 rfl (by simpa using hszy) ?_; simp only [Act.put, List.setIfInBounds_toArray, List.set_cons_zero, List.set_cons_succ, List.getElem_toArray, List.getElem_cons_succ, List.getElem_cons_zero]; go_big_quiet_on)
  (go_big_quiet_want; go_big_quiet_op; refine ⟨_, fun w' hw' => (rless_any xs ys w' Hx.out Hy.out Bx.out By.out).mono (fun e w'' ⟨he, hb⟩ => ⟨he, hw'.trans (hb.mono hw'.size)⟩), ?_⟩; go_big_quiet_on)
  iterate 3 ((first | go_big_quiet_skip | (go_big_quiet_want; go_big_quiet_op; first | go_big_quiet_on | (refine ⟨_, fun _ _ => rfl, ?_⟩; try go_simp; go_big_quiet_on))))
  (go_big_quiet_want; refine quiet_load_mid 26 _ rfl _ _ rfl _ _ (fun w' hw' => (M0.out.below hw' M0.out.lt).range) Try.underlying26 rfl (by simpa using hszx) ?_; simp only [Act.put, List.setIfInBounds_toArray, List.set_cons_zero, List.set_cons_succ, List.getElem_toArray, List.getElem_cons_succ, List.getElem_cons_zero]; go_big_quiet_on)
  (go_big_quiet_want; go_big_quiet_op; refine ⟨_, fun w' hw' => (weigh_any xs w' Hx.out Bx.out).mono (fun e w'' ⟨he, hb⟩ => ⟨he, hw'.trans (hb.mono hw'.size)⟩), ?_⟩; go_big_quiet_on)
  (go_big_quiet_want; refine quiet_load_mid 26 _ rfl _ _ rfl _ _ (fun w' hw' => (M0.out.below hw' M0.out.lt).range) Try.underlying26 rfl (by simpa using hszx) ?_; simp only [Act.put, List.setIfInBounds_toArray, List.set_cons_zero, List.set_cons_succ, List.getElem_toArray, List.getElem_cons_succ, List.getElem_cons_zero]; go_big_quiet_on)
  (go_big_quiet_want; go_big_quiet_op; refine ⟨_, fun w' hw' => (rweigh_any xs w' Hx.out Bx.out).mono (fun e w'' ⟨he, hb⟩ => ⟨he, hw'.trans (hb.mono hw'.size)⟩), ?_⟩; go_big_quiet_on)
  iterate 3 ((first | go_big_quiet_skip | (go_big_quiet_want; go_big_quiet_op; first | go_big_quiet_on | (refine ⟨_, fun _ _ => rfl, ?_⟩; try go_simp; go_big_quiet_on))))
  (go_big_quiet_want; go_big_quiet_op; refine ⟨_, fun w' hw' => (awake_any w').mono (fun e w'' ⟨he, hb⟩ => ⟨he, hw'.trans (hb.mono hw'.size)⟩), ?_⟩; go_big_quiet_on)
  iterate 2 ((first | go_big_quiet_skip | (go_big_quiet_want; go_big_quiet_op; first | go_big_quiet_on | (refine ⟨_, fun _ _ => rfl, ?_⟩; try go_simp; go_big_quiet_on))))
  refine wpQuiet_nil ?_
  intro w9 hw9
  go_wp2_with fail
  go_ret
  exact ⟨rfl, below_on QB.out hw9⟩
end Go.Proofs.Ytfafgnefibgaaaa
