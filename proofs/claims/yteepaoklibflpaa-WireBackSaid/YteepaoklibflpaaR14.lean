/-
  Strings as bytes in a walk: '[]byte(s)'; a region that draws its order and whose operations leave old memory alone.
  The law package of frames: what the program's frames are asked to do; one, splits, awake.
  What the wire package is asked to do (WireOK); the law's learn, within, awake.
  A drawn region walked by hand, operation by operation: what reads what is held, or no world, is taken first; what alone may come up is carried out. General: no program is named here.
-/
import Derived.Test.YteepaoklibflpaaR8
import Derived.Laws.IdiomStrings
import Derived.Laws.BytesArg
import Derived.Test.YteepaoklibflpaaR13
import Derived.Lib.SlBytesConst
import Derived.Test.YteepaoklibflpaaR12
import Derived.Deep.RegionHeld3
namespace Go.Proofs.Yteepaoklibflpaa
section
set_option linter.unusedSimpArgs false
set_option linter.unusedVariables false
variable {P : Program}
/-- A string's bytes as numbers. -/
def nums (s : ByteArray) : List Int := s.data.toList.map fun b => (b.toNat : Int)
theorem nums_length (s : ByteArray) : (nums s).length = s.size := by
  unfold nums; rw [List.length_map, Array.length_toList]; rfl
theorem nums_bd (s : ByteArray) : ∀ n ∈ nums s, 0 ≤ n ∧ n ≤ 255 := by
  intro n hn
  simp only [nums, List.mem_map] at hn
  obtain ⟨b, _, rfl⟩ := hn
  have := b.toNat_lt
  omega
theorem nums_get (s : ByteArray) (i : Nat) (h : i < s.size) : ((nums s).map (Value.int .u8))[i]? = some (Value.int .u8 (s.data.toList[i]'(by simpa using h)).toNat) := by
  simp [nums, h]
attribute [irreducible] nums
section
variable {ops : Array Oper} {rest : List Oper} {o : Oper} {a : Act} {w : World} {Q : Exit → Act → World → Prop} {K : Act → World → Prop}
theorem wp_strbytes (src dst e : TypeId) (x : Operand) (ho : o.op = .convert src dst x) (s : ByteArray) (hx : a.eval x = .string s) (hs : P.underlying src = some .string) (hd : P.underlying dst = some (.slice e)) (he : P.underlying e = some (.int .u8))
    (hm : s.size ≤ maxLen)
    (h : ∀ p cap w', At w' p ((nums s).map (Value.int .u8)) → (p = none → cap = 0) → s.size ≤ cap → cap ≤ maxLen → RowKit.Below w.heap.size w w' → K (a.put o.dst (.slice p s.size cap)) w') : o.wp P a w K Q := by
  unfold Oper.wp execOp
  have hr := run_bytes_of_string (P := P) w src dst e s hs hd he
  simp only [ho, hx, Sem.run_bind, hr, Result.andThen_ok, Sem.run_pure]
  refine h _ _ _ (Or.inr ⟨w.heap.size, 0, rfl, fun i v hi => ?_⟩) (fun h => by cases h) (grownCap_ge _ _ _ _) (grownCap_le_maxLen _ _ _ _ hm) ((RowKit.Below.refl _ w).drew.alloc (Nat.le_refl _) _)
  have hb : (w.drew.alloc (.cells (bytesRow s (grownCap w s.size 0 e)) e ((bytesRow s (grownCap w s.size 0 e)).size, (bytesRow s (grownCap w s.size 0 e)).size + 1))).heap[w.heap.size]? = some (.cells (bytesRow s (grownCap w s.size 0 e)) e ((bytesRow s (grownCap w s.size 0 e)).size, (bytesRow s (grownCap w s.size 0 e)).size + 1)) := heap_alloc_new w.drew _
  rw [Nat.zero_add, cell_of_row _ _ i _ _ _ hb]
  have hlt : i < s.size := by
    rcases Nat.lt_or_ge i s.size with h | h
    · exact h
    · rw [List.getElem?_eq_none (by rw [List.length_map, nums_length]; exact h)] at hi; cases hi
  unfold bytesRow
  rw [Array.getElem?_append_left (by simpa using hlt)]
  simpa [nums] using hi
theorem wpList_strbytes (hgd : o.guard = none) (src dst e : TypeId) (x : Operand) (ho : o.op = .convert src dst x) (s : ByteArray) (hx : a.eval x = .string s) (hs : P.underlying src = some .string) (hd : P.underlying dst = some (.slice e)) (he : P.underlying e = some (.int .u8))
    (hm : s.size ≤ maxLen)
    (h : ∀ p cap w', At w' p ((nums s).map (Value.int .u8)) → (p = none → cap = 0) → s.size ≤ cap → cap ≤ maxLen → RowKit.Below w.heap.size w w' → wpList P ops Q rest (a.put o.dst (.slice p s.size cap)) w') : wpList P ops Q (o :: rest) a w :=
  wpList_plain hgd fun _ hK => wp_strbytes src dst e x ho s hx hs hd he hm fun p cap w' h1 h2 h3 h4 h5 => hK _ _ (h p cap w' h1 h2 h3 h4 h5)
/-- ONE WALK SERVES EVERY ORDER where every operation leaves old memory alone and yields what is no address of new memory. -/
theorem region_grown {id : Nat} {l : List Oper} (hm : P.follows .mixedOrders = true) (hB : Region.lexB .any l.toArray = true)
    (h : wpQuiet P l.toArray (fun w' => RowKit.Below w.heap.size w w') (fun a' => ∀ w', RowKit.Below w.heap.size w w' → Q .normal a' w') l a) : (Code.region id l.toArray true).wp P Q a w :=
  wp_region_quiet (C := fun w' => RowKit.Below w.heap.size w w') hm hB ((RowKit.Below.refl _ w).drew) (by simpa using h)
end
end
section
set_option linter.unusedSimpArgs false
set_option linter.unusedVariables false
open Go.RowKit Sha
/-- What Put and Join leave: bytes of the call's own (their spare room holds bytes, too), and an error. -/
def FDone8 (w0 : World) (r : List Int × Int) (e : Ending) (w : World) : Prop :=
  ∃ v, e = .returned (.tuple #[v, .int .i64 r.2]) ∧ Own8 w w0.heap.size 5 v r.1.length (r.1.map v8) ∧ Below w0.heap.size w0 w
/-- What Split leaves: records of the call's own, and a place. -/
def SpDone8 (w0 : World) (r : List (List Int) × Nat) (e : Ending) (w : World) : Prop :=
  ∃ v ys, e = .returned (.tuple #[v, .int .i64 r.2]) ∧ ys.map (·.1) = r.1 ∧ OwnS w0.heap.size w v ys ∧ (∀ y ∈ ys, Ints8 w (cellS y)) ∧ Below w0.heap.size w0 w
/-- The contracts of the program's frames, on which the laws stand. -/
structure FrameOK : Prop where
  put : ∀ (zs : List Int) (n : Nat) (p : Option Addr) (cap : Nat) (w : World), zs.length = n → GoodS w (zs, p, cap) → Calls Try.prog 23 #[.slice p n cap] w (FDone8 w (Frm.put zs))
  split : ∀ (zs : List Int) (n : Nat) (p : Option Addr) (cap : Nat) (w : World), zs.length = n → GoodS w (zs, p, cap) → n ≤ 1000000000 → Calls Try.prog 17 #[.slice p n cap] w (SpDone8 w (Frm.split zs))
theorem at_mark (w : World) (cs : List Value) (t : TypeId) (fr : Nat × Nat) : At (w.alloc (.cells cs.toArray t fr)) (some ⟨w.heap.size, 0, none⟩) cs := by
  refine Or.inr ⟨_, 0, rfl, fun i v hi => ?_⟩
  rw [Nat.zero_add, cell_of_row _ _ i cs.toArray t fr (heap_alloc_new w _)]
  simpa using hi
theorem fr_a : Frm.put [97] = ([1, 0, 0, 0, 67, 190, 183, 232, 97], 0) := by decide +kernel
def oneCells : Array Value := #[.int .u8 1, .int .u8 0, .int .u8 0, .int .u8 0, .int .u8 67, .int .u8 190, .int .u8 183, .int .u8 232, .int .u8 97]
theorem one_own (w : World) : (w.alloc (Obj.cells oneCells 5)).ownsRow w.heap.size 5 1 (.slice (some ⟨w.heap.size, 0, none⟩) 9 9) 9 (([1, 0, 0, 0, 67, 190, 183, 232, 97] : List Int).map v8) := own_full w oneCells 9 5 (by decide) rfl
theorem one_good (w : World) : GoodS (w.alloc (Obj.cells oneCells 5)) ([1, 0, 0, 0, 67, 190, 183, 232, 97], some ⟨w.heap.size, 0, none⟩, 9) := by
  obtain ⟨p, cap, hv, hl, hm, hA, hx, hn⟩ := own_at (one_own w)
  cases hv
  exact ⟨by simp, hA, by simp, by simp, by intro h; cases h⟩
theorem bel_on {w w' w'' : World} (h : Below w.heap.size w w') (h2 : Below w'.heap.size w' w'') : Below w.heap.size w w'' := h.trans (h2.mono h.size)
theorem bel_alloc {w w' : World} (h : Below w.heap.size w w') (o : Obj) : Below w.heap.size w (w'.alloc o) := h.alloc h.size o
theorem string_info : (Try.prog.info? 9).map (fun i => i.size) = some 1 := by kernel_rfl
def aStr : ByteArray := ⟨#[97]⟩
theorem aStr_nums : nums aStr = [97] := by unfold nums aStr; rfl
theorem rec_a : Frm.Rec [97] := ⟨by decide, by decide⟩
theorem frs_a : Frm.frs [[97]] = [1, 0, 0, 0, 67, 190, 183, 232, 97] := by decide +kernel
theorem split_a3 : Frm.split [1, 0, 0, 0, 67, 190, 183, 232, 97, 1, 0, 0] = ([[97]], 9) := by
  have h := Frm.split_frs [[97]] [1, 0, 0] (by intro b hb; rw [List.mem_singleton.1 hb]; exact rec_a)
  rw [frs_a, Frm.split_none (bs := [1, 0, 0]) (by unfold Frm.stands; rw [if_pos (by decide)])] at h
  exact h
theorem fsize_1 : fsize 1 = 9 := by decide
end
section
set_option linter.unusedSimpArgs false
set_option linter.unusedVariables false
open Go.RowKit Sha Nte
/-- Notes as LongNote has them. -/
structure Few (x : Not) : Prop where
  X : x.X.length ≤ 4100
  I : x.I.length ≤ 100
  W : x.W.length ≤ 100
/-- Where a note's bytes, ids and words may be written over: blocks of the call's own. -/
structure NOwn (w : World) (B : Nat) (x : Not) (h : NHd) : Prop where
  X : Own8 w B 5 (.slice h.q x.X.length h.c) x.X.length (x.X.map v8)
  I : w.ownsRow B 27 32 (.slice h.r x.I.length h.d) x.I.length (x.I.flatMap (fun d => d.map v8))
  W : w.ownsRow B 67 3 (.slice h.s x.W.length h.e) x.W.length (x.W.flatMap nmc)
/-- What Get leaves. -/
def NGet (w : World) (r : Not × Int) (e : Ending) (w' : World) : Prop :=
  ∃ h, e = .returned (.tuple #[.agg (ncells r.1 h).toArray, .int .i64 r.2]) ∧ NGood w' r.1 h ∧ NOwn w' w.heap.size r.1 h ∧ Below w.heap.size w w'
structure WireOK : Prop where
  check : ∀ (x : Not) (h : NHd) (w : World), NGood w x h → Few x → Calls Try.prog 10 #[.agg (ncells x h).toArray] w fun e w' => e = .returned (.int .i64 (check x)) ∧ Below w.heap.size w w'
  put : ∀ (x : Not) (h : NHd) (w : World), NGood w x h → Few x → Calls Try.prog 12 #[.agg (ncells x h).toArray] w (FDone8 w (put x))
  get : ∀ (zs : List Int) (n : Nat) (p : Option Addr) (cap : Nat) (w : World), zs.length = n → GoodS w (zs, p, cap) → n ≤ 4101 → Calls Try.prog 7 #[.slice p n cap] w (NGet w (get zs))
  same : ∀ (x y : Not) (h k : NHd) (w : World), NGood w x h → NGood w y k → Few x → Few y → Calls Try.prog 14 #[.agg (ncells x h).toArray, .agg (ncells y k).toArray] w fun e w' => e = .returned (.bool (decide (x = y))) ∧ Below w.heap.size w w'
theorem few_can {x : Not} (h : Nte.check x = 0) : Few x := by
  have hc := (check_zero h).1
  have hd := inner_data hc
  have hl := (check_zero h).2
  obtain ⟨_, _, _, _, _, _, _, _, _, hi, _, hw, _⟩ := hc
  exact ⟨by omega, by omega, by omega⟩
/-! ### The chapter's Learn -/
def learnN : Not := { none_ with K := 14, F := 3, T := 4, C1 := 3, C2 := 1, C3 := 9, S := 300 }
theorem learn_ok : learnN.ok := by
  refine ⟨?_, ?_, ?_, ?_, ?_, ?_, ?_, ?_, zero_bytes, Fld.zero32_length, ?_, ?_, ?_, ?_, ?_, ?_⟩ <;> simp [learnN, none_, fit, Frm.Bytes]
theorem ngood_flat {w : World} {x : Not} (h : x.ok) (hX : x.X = []) (hI : x.I = []) (hW : x.W = []) : NGood w x NHd.none_ := by
  refine ⟨h, by rw [hX]; exact At.nil _ _, by rw [hX]; simp, by simp [NHd.none_], fun _ => rfl, ?_, ?_⟩
  · rw [hI]; exact Shp.Told.none_ w
  · rw [hW]; exact Shp.Told.none_ w
theorem num300 : Fld.num 300 = [172, 2] := by rw [Fld.num_ge (by omega), Fld.num_lt (by omega)]; rfl
theorem n8_small {n : Int} (h0 : 0 ≤ n) (h1 : n < 128) : n8 n = [n] := by
  unfold n8; rw [Fld.num_lt (by omega)]; simp; omega
theorem learn_inner : inner learnN = [14, 3, 4, 3, 1, 9, 172, 2] := by
  have h300 : n8 300 = [172, 2] := num300
  unfold inner learnN
  simp [letters, enb, h300, n8_small]
theorem learn_can : Nte.Can learnN := by
  unfold Nte.Can Nums Nte.Rest Nte.Call setOk nodeOk learnN
  simp [letters, none_]
theorem learn_check : check learnN = 0 := check_of learn_can (by rw [learn_inner]; decide)
theorem learn_yes : check { learnN with Y := true } = 2 := by
  refine check_no fun h => ?_
  have := h.2.2.2.2.2.1 rfl
  simp [learnN, letters] at this
theorem built_learn : Try.prog.built 32 [(0, .int .i64 14), (1, .int .i64 3), (2, .int .i64 4), (3, .agg #[.int .i64 3, .int .i64 1, .int .i64 9]), (4, .int .i64 300)] = some (ncells learnN NHd.none_).toArray := by unfold ncells learnN; kernel_rfl
section
attribute [local go_sem ↓] execOp_allocNote execOp_storeNote execOp_makeNote execOp_loadNote execOp_boxNote
set_option maxRecDepth 100000 in
set_option maxHeartbeats 1000000 in
theorem learn_any (w : World) : Calls Try.prog 6 #[] w fun e w' => e = .returned (.agg (ncells learnN NHd.none_).toArray) ∧ Below w.heap.size w w' := by
  have al := fun w => alloc_note w
  have mk := fun w => run_makeOp w built_learn
  have st := fun w => store_note1 w (x := learnN) (h := NHd.none_) nz_len
  go_enter Try.func6, Try.ntmps6
  go_wp2_with fail
  have hk := Blk.new w (ncells learnN NHd.none_).toArray 32
  have hB := (Below.refl w.heap.size w).alloc (Nat.le_refl _) (Obj.cells (ncells learnN NHd.none_).toArray 32)
  refine bodyPost_ret (v := .agg (ncells learnN NHd.none_).toArray) (results_cell_row rfl _ _ _ _ _ _ _ rfl hk (Try.underlying32) rfl (note_sizeA nz_len _)) rfl ?_
  exact ⟨rfl, hB⟩
set_option maxRecDepth 100000 in
set_option maxHeartbeats 2000000 in
theorem within_any (Wr : WireOK) (F : FrameOK) (x : Not) (h : NHd) (zs : List Int) (n : Nat) (q : Option Addr) (c : Nat) (w : World) (hx : NGood w x h) (hc : check x = 0) (hi : inner x = zs) (hn : zs.length = n) (hz : GoodS w (zs, q, c)) :
    Calls Try.prog 9 #[.agg (ncells x h).toArray, .slice q n c] w fun e w' => e = .returned (.bool true) ∧ Below w.heap.size w w' := by
  obtain ⟨g, w1, r1, hg1, hl1, K1, B1⟩ := box_note w x h
  have l1 := load_note (o := 0) hx.ok.len K1.range
  have HX := Lib.hid (hx.below B1)
  have HZ := Lib.hid (hz.below B1)
  have HB1 := Lib.hid B1
  have HN := Lib.hid hn
  have HFEW := Lib.hid (few_can hc)
  have HREC := Lib.hid (inner_rec hc)
  have HP := Lib.hid (put_ok hc)
  have HSP := Lib.hid (split_put hc)
  rw [hi] at HP HSP HREC
  have HLN := Lib.hid (Frm.fr_length zs)
  have HBY := Lib.hid (show Frm.Bytes (Frm.fr zs) from Frm.fr_bytes (by rw [← hi]; exact inner_bytes hx.ok))
  obtain ⟨m, hm⟩ : ∃ m, m = (Frm.fr zs).length := ⟨_, rfl⟩
  rw [← hm] at HSP HLN
  have HM := Lib.hid hm
  have hml : m ≤ 4008 := by have := HREC.out.most; have := HLN.out; omega
  clear hx hc hi hn hz K1 B1 hg1 hl1 hm
  go_enter Try.func9, Try.ntmps9
  go_wp2_with fail
  refine (Wr.put x h w1 HX.out HFEW.out).mono ?_
  rw [HP.out]
  rintro e1 w2 ⟨v, rfl, ho, hb⟩
  obtain ⟨p2, c2, rfl, hc2, hm2, hA2, _, hn2⟩ := own_at ho.row
  dsimp only
  rw [← HM.out] at hc2 ⊢
  have HB2 := Lib.hid (HB1.out.trans (hb.mono HB1.out.size))
  have HZ2 := Lib.hid (HZ.out.below hb)
  have G2 := Lib.hid (show GoodS w2 (Frm.fr zs, p2, c2) from ⟨HBY.out, hA2, by rw [← HM.out]; exact hc2, by unfold maxLen at hm2; simp only; omega, hn2⟩)
  clear ho hb hA2 hn2 r1 l1 HX HZ hc2 hm2
  go_wp2_with fail
  refine (F.split (Frm.fr zs) m p2 c2 w2 HM.out.symm G2.out (by omega)).mono ?_
  rw [HSP.out]
  rintro e3 w3 ⟨v3, ys, rfl, hys, ho3, _, hb3⟩
  obtain ⟨q3, c3, rfl, ht⟩ := ho3.told
  dsimp only at hys
  rw [hys] at ht
  have hyl : ys.length = 1 := by have := congrArg List.length hys; simpa using this
  rw [hyl] at *
  have HB3 := Lib.hid (HB2.out.trans (hb3.mono HB2.out.size))
  have HZ3 := Lib.hid (HZ2.out.below hb3)
  obtain ⟨b, off, q4, d4, rfl, hcell, hg4⟩ := ht.get 0 (by simp)
  simp only [List.getElem_cons_zero, Nat.add_zero] at hcell hg4
  rw [HN.out] at hcell
  have t1 := ht.le
  have t2 := ht.max
  have G4 := Lib.hid hg4
  clear ho3 hb3 ht hys hg4 HZ2 G2 hyl
  dsimp only
  go_wp2_with fail
  refine (same_any zs zs n n q4 q d4 c w3 HN.out HN.out G4.out.at_ HZ3.out.at_ G4.out.bytes G4.out.bytes).mono ?_
  rintro e5 w5 ⟨rfl, rfl⟩
  go_wp2_with fail
  go_ret
  exact ⟨by simp, HB3.out⟩
def yesN : Not := { learnN with Y := true }
theorem yes_cells (h : NHd) : (ncells learnN h).set 12 (.bool true) = ncells yesN h := rfl
theorem yes_ok : yesN.ok := ⟨learn_ok.K, learn_ok.F, learn_ok.T, learn_ok.C, learn_ok.S, learn_ok.H, learn_ok.B, learn_ok.O, learn_ok.D, learn_ok.len, learn_ok.X, learn_ok.Xl, learn_ok.I, learn_ok.Il, learn_ok.W, learn_ok.Wl⟩
theorem few_flat {x : Not} (hX : x.X = []) (hI : x.I = []) (hW : x.W = []) : Few x := ⟨by simp [hX], by simp [hI], by simp [hW]⟩
theorem good_made (w : World) (zs : List Int) (h : ∀ m ∈ zs, 0 ≤ m ∧ m ≤ 255) (hl : zs.length ≤ 100000) : GoodS (w.alloc (.cells (zs.map v8).toArray 5)) (zs, some ⟨w.heap.size, 0, none⟩, zs.length) :=
  ⟨h, at_mark w (zs.map v8) 5 (0, 0), by simp, by simp only; omega, by intro h; cases h⟩
set_option maxRecDepth 100000 in
set_option maxHeartbeats 2000000 in
theorem wawake_any (Wr : WireOK) (F : FrameOK) (w : World) : Calls Try.prog 8 #[] w fun e w' => e = .returned (.bool true) ∧ Below w.heap.size w w' := by
  go_enter Try.func8, Try.ntmps8
  go_wp2_with fail
  refine (learn_any w).mono ?_
  rintro e1 w1 ⟨rfl, hb1⟩
  have HB1 := Lib.hid hb1
  have al1 := alloc_note w1
  have st1 := store_note1 w1 (x := learnN) (h := NHd.none_) nz_len
  go_wp2_with fail
  rw [yes_cells]
  have HB2 := Lib.hid (HB1.out.trans (((Below.refl w1.heap.size w1).alloc (Nat.le_refl _) (Obj.cells (ncells yesN NHd.none_).toArray 32)).mono HB1.out.size))
  have K2 := Lib.hid (show Blk (w1.alloc (Obj.cells (ncells yesN NHd.none_).toArray 32)) w1.heap.size (ncells yesN NHd.none_) 32 from Blk.new w1 (ncells yesN NHd.none_).toArray 32)
  generalize w1.alloc (Obj.cells (ncells yesN NHd.none_).toArray 32) = w2 at *
  generalize w1.heap.size = g at *
  clear al1 st1 hb1
  refine (learn_any w2).mono ?_
  rintro e3 w3 ⟨rfl, hb3⟩
  have HB3 := Lib.hid (HB2.out.trans (hb3.mono HB2.out.size))
  have K3 := Lib.hid (K2.out.below hb3 K2.out.lt)
  have HG := Lib.hid (good_made w3 [14, 3, 4, 3, 1, 9, 172, 2] (by simp) (by simp))
  have HB4 := Lib.hid (HB3.out.trans (((Below.refl w3.heap.size w3).alloc (Nat.le_refl _) (Obj.cells (([14, 3, 4, 3, 1, 9, 172, 2] : List Int).map v8).toArray 5)).mono HB3.out.size))
  have K4 := Lib.hid (K3.out.below ((Below.refl w3.heap.size w3).alloc (Nat.le_refl _) (Obj.cells (([14, 3, 4, 3, 1, 9, 172, 2] : List Int).map v8).toArray 5)) K3.out.lt)
  clear hb3 K2 K3 HB2 HB3
  go_wp2_with fail
  refine (within_any Wr F learnN NHd.none_ [14, 3, 4, 3, 1, 9, 172, 2] 8 _ 8 _ (ngood_flat learn_ok rfl rfl rfl) learn_check learn_inner rfl HG.out).mono ?_
  rintro e5 w5 ⟨rfl, hb5⟩
  have HB5 := Lib.hid (HB4.out.trans (hb5.mono HB4.out.size))
  have l5 := load_note (x := yesN) (o := 0) nz_len (K4.out.below hb5 K4.out.lt).range
  clear hb5 HG HB4 K4
  go_wp2_with fail
  refine (Wr.check yesN NHd.none_ w5 (ngood_flat yes_ok rfl rfl rfl) (few_flat rfl rfl rfl)).mono ?_
  rw [show check yesN = 2 from learn_yes]
  rintro e6 w6 ⟨rfl, hb6⟩
  go_wp2_with fail
  go_ret
  exact ⟨rfl, HB5.out.trans (hb6.mono HB5.out.size)⟩
end
end
section
set_option linter.unusedSimpArgs false
set_option linter.unusedVariables false
section
variable {P : Program} {md : Region.Mode} {l : List Oper} {Q : Exit → Act → World → Prop} {S : World → Prop} {fuel : Nat} {listed : Array Bool} {a : Act} {w : World}
theorem blt_lt {i n : Nat} (h : Nat.blt i n = true) : i < n := Nat.le_of_ble_eq_true h
theorem at_toArray {i : Nat} (h : i < l.length) : l.toArray[i]? = some l[i] := by simp [h]
theorem take_at (i : Nat) (hlen : Nat.blt i l.length = true) {v : Value} (hs : Region.noSelect l.toArray = true) (hf : Region.free md l.toArray listed i = true) (hr : (Region.ready md l.toArray listed).contains i = true)
    (hQ : ∀ c a w, Q (.panic c) (a.put (l[i]'(blt_lt hlen)).dst v) w → Q (.panic c) a w) (hw : Region.wanted (l[i]'(blt_lt hlen)) (yielded l.toArray a.tmps) = true)
    (hy : ∀ w, S w → (execOp a.eval (l[i]'(blt_lt hlen))).run P w = .ok (.value v) w) (hS : S w)
    (h : wpAnyH P md l.toArray Q S fuel (listed.setIfInBounds i true) (a.put (l[i]'(blt_lt hlen)).dst v) w) : wpAnyH P md l.toArray Q S (fuel + 1) listed a w :=
  wpAnyH_take (at_toArray (blt_lt hlen)) hs hf hr hQ (Or.inl ⟨hw, hy⟩) hS h
theorem pass_at (i : Nat) (hlen : Nat.blt i l.length = true) (hs : Region.noSelect l.toArray = true) (hf : Region.free md l.toArray listed i = true) (hr : (Region.ready md l.toArray listed).contains i = true)
    (hQ : ∀ c a w, Q (.panic c) (a.put (l[i]'(blt_lt hlen)).dst undef) w → Q (.panic c) a w) (hw : Region.wanted (l[i]'(blt_lt hlen)) (yielded l.toArray a.tmps) = false) (hS : S w)
    (h : wpAnyH P md l.toArray Q S fuel (listed.setIfInBounds i true) (a.put (l[i]'(blt_lt hlen)).dst undef) w) : wpAnyH P md l.toArray Q S (fuel + 1) listed a w :=
  wpAnyH_take (at_toArray (blt_lt hlen)) hs hf hr hQ (Or.inr ⟨hw, rfl⟩) hS h
theorem ready_at (i : Nat) (hlen : Nat.blt i l.length = true) (hr : Region.ready md l.toArray listed = [i])
    (h : ∀ K' : Act → World → Prop, Shut (∀ a w, S w → (S w → wpAnyH P md l.toArray Q S fuel (listed.setIfInBounds i true) a w) → K' a w) → if Region.wanted (l[i]'(blt_lt hlen)) (yielded l.toArray a.tmps) = true then Oper.wp P (l[i]'(blt_lt hlen)) a w K' Q else K' (a.put (l[i]'(blt_lt hlen)).dst undef) w) :
    wpAnyH P md l.toArray Q S (fuel + 1) listed a w :=
  wpAnyH_ready hr (by simp) (AllReadyH.cons (at_toArray (blt_lt hlen)) h AllReadyH.nil)
theorem ready2_at (i j : Nat) (hi : Nat.blt i l.length = true) (hj : Nat.blt j l.length = true) (hr : Region.ready md l.toArray listed = [i, j])
    (h1 : ∀ K' : Act → World → Prop, Shut (∀ a w, S w → (S w → wpAnyH P md l.toArray Q S fuel (listed.setIfInBounds i true) a w) → K' a w) → if Region.wanted (l[i]'(blt_lt hi)) (yielded l.toArray a.tmps) = true then Oper.wp P (l[i]'(blt_lt hi)) a w K' Q else K' (a.put (l[i]'(blt_lt hi)).dst undef) w)
    (h2 : ∀ K' : Act → World → Prop, Shut (∀ a w, S w → (S w → wpAnyH P md l.toArray Q S fuel (listed.setIfInBounds j true) a w) → K' a w) → if Region.wanted (l[j]'(blt_lt hj)) (yielded l.toArray a.tmps) = true then Oper.wp P (l[j]'(blt_lt hj)) a w K' Q else K' (a.put (l[j]'(blt_lt hj)).dst undef) w) :
    wpAnyH P md l.toArray Q S (fuel + 1) listed a w :=
  wpAnyH_ready hr (by simp) (AllReadyH.cons (at_toArray (blt_lt hi)) h1 (AllReadyH.cons (at_toArray (blt_lt hj)) h2 AllReadyH.nil))
end
end
end Go.Proofs.Yteepaoklibflpaa
