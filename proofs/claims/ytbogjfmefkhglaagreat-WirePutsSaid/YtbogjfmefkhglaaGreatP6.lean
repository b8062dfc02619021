/-
  The wire package's shapes: of a letter, of a kind.
  The reference of fields: letter, number, group, fails, Check.
  The reference of the wire package: letters, has, within and what stands on it.
  Items of a note in memory; the wire package's withNumbers, truth.
  The reference of the wire package: may a call, a ballot, words be?
  The reference of the wire package: a kind's shape (written by mkrwe15.py).
-/
import Derived.Test.YtbogjfmefkhglaaGreatP5
import Derived.Test.YtbogjfmefkhglaaGreatP4
import Derived.Test.YtbogjfmefkhglaaGreatP3
import Derived.Laws.MakeOwn
namespace Go.Proofs.YtbogjfmefkhglaaGreat
section
set_option linter.unusedSimpArgs false
set_option linter.unusedVariables false
open Go.RowKit Sha Nte
@[irreducible] def catW (x y : Operand) (u v : Value) : Sem Next := do pure (.value (← (do eqGuard .add 9 x y u v; binOp .add 9 u v)))
theorem execOp_catW (ρ : Operand → Value) (dst : Option Tmp) (x y : Operand) (r : TypeId) (ty : TypeId) (pos : String) (after : Array Edge) (guard : Option (Nat × Bool)) :
    execOp ρ { dst := dst, op := .binOp .add 9 x y r, type := ty, pos := pos, after := after, guard := guard } = catW x y (ρ x) (ρ y) := by unfold catW; rfl
theorem run_catW (x y : Operand) (s t : ByteArray) (hs : s.size + t.size ≤ 1000000) (w : World) : (catW x y (.string s) (.string t)).run Tryz.prog w = .ok (.value (.string (s ++ t))) w := by
  have h : ¬ (((s.size + t.size : Nat) : Int) > IntKind.i64.max) := by have h1 : IntKind.i64.max = 9223372036854775807 := rfl; rw [h1]; omega
  unfold catW
  simp only [binOp]
  simp only [eqGuard, Op.stringOp, run_underlying Tryz.underlying9, h]
  simp
theorem nums_catW (s t : ByteArray) : nums (s ++ t) = nums s ++ nums t := by
  unfold nums
  simp
theorem execOp_boxForm15 (ρ : Operand → Value) (dst : Option Tmp) (x : Operand) (ty : TypeId) (pos : String) (after : Array Edge) (guard : Option (Nat × Bool)) :
    execOp ρ { dst := dst, op := .box 63 x, type := ty, pos := pos, after := after, guard := guard } = boxOp 63 (ρ x) := by unfold boxOp; rfl
def shB (c : Int) : ByteArray :=
  if c = 99 then ⟨#[110, 110, 110]⟩ else if c = 98 ∨ c = 111 then ⟨#[110, 110]⟩ else if c = 100 then ⟨#[100]⟩ else if c = 120 then ⟨#[98]⟩ else if c = 105 then ⟨#[40, 100, 41]⟩ else if c = 119 then ⟨#[40, 110, 110, 110, 41]⟩ else ⟨#[110]⟩
theorem shB_nums (c : Int) : nums (shB c) = shp c := by unfold shB shp; (repeat' split) <;> decide +kernel
theorem shB_size (c : Int) : (shB c).size ≤ 5 := by unfold shB; (repeat' split) <;> decide
set_option maxRecDepth 100000 in
set_option maxHeartbeats 1000000 in
theorem wshapeOf_any (c : Int) (hc : isT c) (w : World) : Calls Tryz.prog 70 #[.int .i32 c] w fun e w' => e = .returned (.string (shB c)) ∧ w = w' := by
  rcases hc with rfl | rfl | rfl | rfl | rfl | rfl | rfl | rfl | rfl | rfl
  all_goals
    go_enter Tryz.func70, Tryz.ntmps70
    go_wp2_with fail
    go_ret
    exact ⟨rfl, rfl⟩
/-- A kind's shape, as the program makes it. -/
def shF (l : List Int) : ByteArray := l.foldl (fun s c => s ++ shB c) ⟨#[110, 110, 110]⟩
theorem shF_next (l : List Int) (c : Int) : shF (l ++ [c]) = shF l ++ shB c := by unfold shF; rw [List.foldl_append]; rfl
theorem shF_nums (l : List Int) : nums (shF l) = 110 :: 110 :: 110 :: l.flatMap shp := by
  have h : ∀ (l : List Int) (s : ByteArray), nums (l.foldl (fun s c => s ++ shB c) s) = nums s ++ l.flatMap shp := by
    intro l
    induction l with
    | nil => intro s; simp
    | cons c l ih => intro s; rw [List.foldl_cons, ih, nums_catW, shB_nums, List.flatMap_cons, List.append_assoc]
  unfold shF
  rw [h, show nums ⟨#[110, 110, 110]⟩ = [110, 110, 110] by decide +kernel]; rfl
theorem shF_size (l : List Int) : (shF l).size ≤ 3 + 5 * l.length := by
  have h : ∀ (l : List Int) (s : ByteArray), (l.foldl (fun s c => s ++ shB c) s).size ≤ s.size + 5 * l.length := by
    intro l
    induction l with
    | nil => intro s; simp
    | cons c l ih => intro s; have h1 := ih (s ++ shB c); have h2 := shB_size c; rw [ByteArray.size_append] at h1; rw [List.foldl_cons, List.length_cons]; omega
  exact h l _
def shS (k : Int) : ByteArray := shF (letters k)
theorem shS_nums (k : Int) : nums (shS k) = Nte.shape k := shF_nums _
theorem letters_len (k : Int) : (letters k).length ≤ 6 := by rw [← kHas_nums, nums_length]; exact kHas_size k
theorem shS_size (k : Int) : (shS k).size ≤ 33 := by have := shF_size (letters k); have := letters_len k; unfold shS; omega
/-- A letter's place: what is left of the letters. -/
theorem wire_next (t : ByteArray) (l : List Int) (hl : nums t = l) (j : Nat) (hj : j < t.size) (h128 : ∀ c ∈ l, c < 128) : ∃ c, NextL Tryz.prog t j (j + 1) c ∧ l[j]? = some c := by
  obtain ⟨c, hn, hd⟩ := next_isL Tryz.prog t j hj (by rw [hl]; exact h128)
  refine ⟨c, hn, ?_⟩
  rw [hl] at hd
  rw [← List.head?_drop, hd]; rfl
theorem letters_128 (k : Int) : ∀ c ∈ letters k, c < 128 := fun c hc => by have := letters_isT k c hc; unfold isT at this; omega
attribute [local go_sem ↓] execOp_catW execOp_boxForm15
set_option maxRecDepth 100000 in
set_option maxHeartbeats 2000000 in
theorem wshape_any (k : Int) (w : World) : Calls Tryz.prog 42 #[wform k] w fun e w' => e = .returned (.string (shS k)) ∧ Below w.heap.size w w' := by
  have hsz := kHas_size k
  have hnm := kHas_nums k
  have HIS := Lib.hid (letters_isT k)
  have H128 := Lib.hid (letters_128 k)
  unfold shS
  show Calls Tryz.prog 42 #[.agg #[.string (kHas k), .string (kYes k), .string (kNo k)]] w _
  generalize kHas k = t at *
  generalize kYes k = t1 at *
  generalize kNo k = t2 at *
  generalize letters k = l at *
  have HL := Lib.hid (show l.length = t.size by rw [← hnm, nums_length])
  have HNM := Lib.hid hnm
  clear hnm
  have bx1 := run_boxOp (P := Tryz.prog) (t := 63) (cs := #[.string t, .string t1, .string t2]) w
  have hb1 := (Below.refl w.heap.size w).alloc (Nat.le_refl _) (.cells #[.string t, .string t1, .string t2] 63)
  have hk1 : Blk (w.alloc (.cells #[.string t, .string t1, .string t2] 63)) w.heap.size [.string t, .string t1, .string t2] 63 := Blk.new w #[.string t, .string t1, .string t2] 63
  obtain ⟨w1, hw1⟩ : ∃ v, v = w.alloc (.cells #[.string t, .string t1, .string t2] 63) := ⟨_, rfl⟩
  rw [← hw1] at bx1 hb1 hk1
  have c1 : w1.cell? ⟨w.heap.size, 0, none⟩ = some (.string t) := hk1.cell 0
  have HB1 := Lib.hid hb1
  clear hw1 hk1 hb1
  go_enter Tryz.func42, Tryz.ntmps42
  go_wp2_with fail
  have HI0 := Lib.hid (World.iter_heap w1 t 0)
  have hal : (w1.iter t 0) = w1.alloc (.stringIter t 0) := rfl
  have HB2 := Lib.hid (show Below w.heap.size w (w1.iter t 0) from by rw [hal]; exact HB1.out.alloc HB1.out.size _)
  obtain ⟨gi, hgi⟩ : ∃ gi, gi = w1.heap.size := ⟨_, rfl⟩
  rw [← hgi] at HI0 ⊢
  have HG := Lib.hid (show w.heap.size ≤ gi by rw [hgi]; exact HB1.out.size)
  clear hal hgi HB1 c1 bx1
  generalize w1.iter t 0 = w2 at *
  go_loopg [3] t.size (fun gh vv wr => ∃ (j : Nat) (s : ByteArray), vv = .string s ∧ j ≤ t.size ∧ gh = t.size - j ∧ s.size ≤ 3 + 5 * j ∧ Hid (s = shF (l.take j)) ∧ Hid (wr.heap[gi]? = some (.stringIter t j)) ∧ Hid (Below w.heap.size w wr))
  case atStart => exact ⟨0, _, rfl, by omega, rfl, by decide, Lib.hid (by rw [List.take_zero]; rfl), HI0, HB2⟩
  case round =>
    obtain ⟨j, s, rfl, hj, rfl, hs, HS, HI, HB⟩ := hrel
    clear HI0 HB2
    by_cases hp : j < t.size
    · obtain ⟨ch, hn, hch⟩ := wire_next t l HNM.out j hp H128.out
      have hnx := fun ty => hn.run wr gi ty HI.out
      have hcm : ch ∈ l := List.mem_of_getElem? hch
      have HC := Lib.hid (HIS.out ch hcm)
      have HTK := Lib.hid (show shF (l.take (j + 1)) = shF (l.take j) ++ shB ch from by
        rw [List.take_add_one, hch]; exact shF_next _ _)
      have HI2 := Lib.hid (Lib.iterAt_heap _ _ _ _ (j + 1) HI.out)
      have HB2 := Lib.hid (show Below w.heap.size w (wr.iterAt gi t (j + 1)) from Lib.below_iterAt HB.out HG.out t (j + 1))
      clear hn hch hcm HI HB
      obtain ⟨w5, hw5⟩ : ∃ w5, w5 = wr.iterAt gi t (j + 1) := ⟨_, rfl⟩
      rw [← hw5] at hnx HI2 HB2
      clear hw5
      have z1 := shB_size ch
      have cat := fun w => run_catW (.tmp 12) (.tmp 14) s (shB ch) (by omega) w
      obtain ⟨sb, hsb⟩ : ∃ sb, sb = shB ch := ⟨_, rfl⟩
      have SO := Lib.hid (wshapeOf_any ch HC.out w5)
      rw [← hsb] at z1 cat HTK SO
      clear hsb
      have HS2 := Lib.hid (show s ++ sb = shF (l.take (j + 1)) from by rw [HTK.out, HS.out])
      have z2 : (s ++ sb).size ≤ 3 + 5 * (j + 1) := by rw [ByteArray.size_append]; omega
      generalize s ++ sb = s2 at *
      clear HS HTK
      go_wp2_with fail
      refine SO.out.mono ?_
      rintro e w6 ⟨rfl, rfl⟩
      go_wp2_with fail
      go_roundg (t.size - (j + 1))
      case measure => omega
      case rel => exact ⟨j + 1, s2, rfl, by omega, rfl, z2, HS2, HI2, HB2⟩
    · obtain rfl : j = t.size := by omega
      have hnx := fun ty => Lib.run_next_end_at (P := Tryz.prog) wr gi t t.size ty HI.out (by omega)
      have HTL := Lib.hid (show l.take t.size = l from List.take_of_length_le (by rw [HL.out]; exact Nat.le_refl _))
      have HS3 := Lib.hid (show s = shF l from by rw [HS.out, HTL.out])
      go_wp2_with fail
      go_ret
      exact ⟨by rw [HS3.out]; rfl, HB.out⟩
end
section
set_option linter.unusedSimpArgs false
set_option linter.unusedVariables false
open Go.RowKit Sha
open Fld (Itm)
set_option maxHeartbeats 400000 in
theorem letter_any (c : Int) (w : World) : Calls Tryz.prog 114 #[.int .u8 c] w fun e w' => e = .returned (.bool (decide (c = 110 ∨ c = 98 ∨ c = 100))) ∧ w = w' := by
  go_enter Tryz.func114, Tryz.ntmps114
  by_cases h1 : c = 110
  · subst h1
    go_wp2_with fail
    go_ret
    exact ⟨rfl, rfl⟩
  · have e1 : (c == 110) = false := by rw [beq_eq_false_iff_ne]; exact h1
    by_cases h2 : c = 98
    · subst h2
      go_wp2_with fail
      go_ret
      exact ⟨rfl, rfl⟩
    · have e2 : (c == 98) = false := by rw [beq_eq_false_iff_ne]; exact h2
      by_cases h3 : c = 100
      · subst h3
        go_wp2_with fail
        go_ret
        exact ⟨rfl, rfl⟩
      · have e3 : (c == 100) = false := by rw [beq_eq_false_iff_ne]; exact h3
        have HD := Lib.hid (show decide (c = 110 ∨ c = 98 ∨ c = 100) = false by simp [h1, h2, h3])
        clear h1 h2 h3
        go_wp2_with fail
        go_ret
        exact ⟨congrArg (fun b => Ending.returned (Value.bool b)) HD.out.symm, rfl⟩
set_option maxRecDepth 100000 in
set_option maxHeartbeats 1000000 in
theorem rnumber_any (n : Nat) (w : World) (hn : n ≤ 9223372036854775807) :
    Calls Tryz.prog 123 #[.int .i64 n] w fun e w' => ∃ v, e = .returned v ∧ w'.ownsRow w.heap.size 5 1 v (Fld.num n).length ((Fld.num n).map v8) ∧ Below w.heap.size w w' := by
  go_enter Tryz.func123, Tryz.ntmps123
  go_wp2_with fail
  go_loopw [0, 3] (fun i vv wr => ∃ (k : Nat) (cur : List Int) (v : Value), i = .int .i64 k ∧ v = vv ∧ k ≤ n ∧ Hid (cur ++ Fld.num k = Fld.num n) ∧ Hid (wr.ownsRow w.heap.size 5 1 v cur.length (cur.map v8)) ∧ Hid (Below w.heap.size w wr)) (fun i _ _ => (intOf i).toNat)
  case atStart => exact ⟨n, [], _, rfl, rfl, Nat.le_refl _, rfl, World.ownsRow_nil _ _ _ _, Below.refl _ _⟩
  case round =>
    obtain ⟨k, cur, v, rfl, rfl, hk, HE, HO, HB⟩ := hrel
    have hcl : cur.length ≤ 1000000009 := by
      have h1 := congrArg List.length HE.out
      have h2 := Fld.num_len n (by rw [show (128 : Nat) ^ 9 = 9223372036854775808 by decide]; omega)
      simp at h1; omega
    have s1 := HB.out.size
    by_cases hge : 128 ≤ k
    · have HN := Lib.hid (num_next (out := []) HE.out hge)
      go_wp2_with (at_builtin; refine wpList_app rfl (.tmp 6) (.tmp 11) 28 rfl w.heap.size 5 Tryz.underlying28 kbyte_info rfl v _ _ rfl (HO.out.alloc _) _ 1 1 [v8 ((k : Int) % 128 + 128)] rfl ?_ rfl (fun h => by cases h) (by omega) (by simp [Value.oneCell']) (by omega) (by unfold maxLen; omega) (by simp; omega) ?_; exact at_one _ _ _; intro v2 w2 hown2 hg2 hb2 hs2 _; have HO2 := Lib.hid hown2; have HB2 := Lib.hid ((HB.out.alloc s1 _).trans hb2); clear hown2 hg2 hb2)
      go_roundw
      case rel => exact ⟨k / 128, cur ++ [(k : Int) % 128 + 128], _, by go_num, rfl, by omega, Lib.hid (by have := HN.out; simpa using this), Lib.hid (by have := HO2.out; simpa using this), HB2⟩
      case measure => simp [intOf]; omega
    · have HN := Lib.hid (num_last (out := []) HE.out (by omega))
      go_wp2_with (at_builtin; refine wpList_app rfl (.tmp 15) (.tmp 18) 28 rfl w.heap.size 5 Tryz.underlying28 kbyte_info rfl v _ _ rfl (HO.out.alloc _) _ 1 1 [v8 ((k : Int))] rfl ?_ rfl (fun h => by cases h) (by omega) (by simp [Value.oneCell']) (by omega) (by unfold maxLen; omega) (by simp; omega) ?_; exact at_one _ _ _; intro v2 w2 hown2 hg2 hb2 hs2 _; have HO2 := Lib.hid hown2; have HB2 := Lib.hid ((HB.out.alloc s1 _).trans hb2); clear hown2 hg2 hb2)
      go_ret
      exact ⟨_, rfl, by have h := HO2.out; have e := HN.out; simp only [List.nil_append] at e; rw [← e]; simpa using h, HB2.out⟩
theorem run_letter (s : ByteArray) (k : Nat) (c : Int) (r : List Int) (h : (nums s).drop k = c :: r) (w : World) : (Instr.index 9 (.string s) (.int .i64 (k : Int))).run Tryz.prog w = .ok (.int .u8 c) w := by
  have hk : k < s.size := by
    rw [← nums_length]
    rcases Nat.lt_or_ge k (nums s).length with h1 | h1
    · exact h1
    · rw [List.drop_eq_nil_of_le h1] at h; cases h
  rw [run_index_string w 9 s .i64 (k : Int) Tryz.underlying9, dif_pos ⟨by omega, by omega⟩]
  have h2 : (nums s)[k]? = some c := by
    have := congrArg (·[0]?) h
    simpa using this
  unfold nums at h2
  rw [List.getElem?_map] at h2
  have h3 : k < s.data.toList.length := by simpa using hk
  rw [List.getElem?_eq_getElem h3] at h2
  simp at h2
  simp [← h2]
  rfl
theorem drop_mid {xs g : List Int} {y : Int} {r : List Int} (h : xs = g ++ y :: r) (k : Nat) (hk : k < g.length) : xs.drop k = g[k] :: (g.drop (k + 1) ++ y :: r) := by
  subst h
  rw [List.drop_append_of_le_length (by omega), List.drop_eq_getElem_cons hk]
  rfl
theorem drop_end {xs g : List Int} {y : Int} {r : List Int} (h : xs = g ++ y :: r) : xs.drop g.length = y :: r := by subst h; simp
set_option maxRecDepth 100000 in
set_option maxHeartbeats 400000 in
theorem group_any (t : ByteArray) (ht : t.size ≤ maxLen) (g r : List Int) (h : nums t = g ++ 41 :: r) (hg : ∀ c ∈ g, c ≠ 41) (w : World) :
    Calls Tryz.prog 77 #[.string t] w fun e w' => e = .returned (.string (t.extract 0 g.length)) ∧ w = w' := by
  have hl : g.length < t.size := by rw [← nums_length, h]; simp
  unfold maxLen at ht
  have H := Lib.hid h
  have HG := Lib.hid hg
  obtain ⟨n, hn⟩ : ∃ n, n = g.length := ⟨_, rfl⟩
  rw [← hn] at hl ⊢
  have HN := Lib.hid hn
  clear h hg hn
  go_enter Tryz.func77, Tryz.ntmps77
  go_wp2_with fail
  go_loopw [3] (fun i wr => ∃ (k : Nat), i = .int .i64 k ∧ k ≤ n ∧ w = wr) (fun i _ => n - (intOf i).toNat)
  case atStart => exact ⟨0, rfl, by omega, rfl⟩
  case round =>
    obtain ⟨k, rfl, hk, rfl⟩ := hrel
    by_cases hlt : k < n
    · have hkg : k < g.length := by rw [← HN.out]; exact hlt
      obtain ⟨c, hc⟩ : ∃ c, c = g[k] := ⟨_, rfl⟩
      have hb := run_letter t k c _ (by rw [hc]; exact drop_mid H.out k hkg)
      have hne : (c == 41) = false := by rw [beq_eq_false_iff_ne]; exact HG.out c (by rw [hc]; exact List.getElem_mem hkg)
      clear hc hkg
      go_wp2_with fail
      go_roundw
      case rel => exact ⟨k + 1, by go_num, by omega, by first | rfl | trivial⟩
      case measure => simp [intOf]; omega
    · obtain rfl : k = n := by omega
      have hb := run_letter t k 41 r (by have := drop_end H.out; rwa [← HN.out] at this)
      go_wp2_with fail
      go_ret
      exact ⟨rfl, rfl⟩
set_option maxRecDepth 100000 in
set_option maxHeartbeats 400000 in
theorem rfails_any (ga : Nat) (L K V : Value) (e er : Int) (w : World) (h : Blk w ga [L, K, V, .int .i64 e] 131) :
    Calls Tryz.prog 90 #[.pointer (some ⟨ga, 0, none⟩), .int .i64 er] w fun x w' => x = .returned (.tuple #[]) ∧ w' = if e = 0 then w.setCell ⟨ga, 3, none⟩ (.int .i64 er) else w := by
  have c3 : w.cell? ⟨ga, 3, none⟩ = some (.int .i64 e) := h.cell 3
  have f3 : w.frozen? ⟨ga, 3, none⟩ = false := h.free 3
  clear h
  by_cases he : e = 0
  · subst he
    go_enter Tryz.func90, Tryz.ntmps90
    go_wp2_with fail
    go_end0
    exact ⟨rfl, rfl⟩
  · have hne : (e == 0) = false := by rw [beq_eq_false_iff_ne]; exact he
    have HE := Lib.hid he
    clear he
    go_enter Tryz.func90, Tryz.ntmps90
    go_wp2_with fail
    go_end0
    exact ⟨rfl, by first | rfl | simp [HE.out]⟩
theorem letter_yes (c : Int) (hc : c = 110 ∨ c = 98 ∨ c = 100) (w : World) : Calls Tryz.prog 114 #[.int .u8 c] w fun e w' => e = .returned (.bool true) ∧ w = w' :=
  (letter_any c w).mono fun _ _ ⟨he, hw⟩ => ⟨by rw [he, decide_eq_true hc], hw⟩
theorem letter_no (c : Int) (hc : ¬ (c = 110 ∨ c = 98 ∨ c = 100)) (w : World) : Calls Tryz.prog 114 #[.int .u8 c] w fun e w' => e = .returned (.bool false) ∧ w = w' :=
  (letter_any c w).mono fun _ _ ⟨he, hw⟩ => ⟨by rw [he, decide_eq_false hc], hw⟩
theorem drop_some (s : ByteArray) (k : Nat) (h : k < s.size) : ∃ c, (nums s).drop k = c :: (nums s).drop (k + 1) := by
  have hl : k < (nums s).length := by rw [nums_length]; exact h
  exact ⟨(nums s)[k], List.drop_eq_getElem_cons hl⟩
set_option maxRecDepth 100000 in
set_option maxHeartbeats 2000000 in
theorem rcheck_any (s : ByteArray) (w : World) (hs : s.size ≤ maxLen) :
    Calls Tryz.prog 75 #[.string s] w fun e w' => e = .returned (.int .i64 (Fld.chkE (nums s))) ∧ w = w' := by
  unfold maxLen at hs
  by_cases hlt : 40 < s.size
  · have HR := Lib.hid (Fld.chkE_no (chk_gt s hlt))
    go_enter Tryz.func75, Tryz.ntmps75
    go_wp2_with fail
    go_ret
    exact ⟨ret_int HR.out.symm, rfl⟩
  · have HC := Lib.hid (chk_le s (by omega))
    go_enter Tryz.func75, Tryz.ntmps75
    go_wp2_with fail
    go_loopw [3, 4, 5] (fun o n i wr => ∃ (k m : Nat) (ob : Bool), k ≤ s.size ∧ i = .int .i64 k ∧ w = wr ∧ o = .bool ob ∧ n = .int .i64 m ∧ ChkRel s w ob m k) (fun _ _ i _ => s.size - (intOf i).toNat)
    case atStart => exact ⟨0, 0, false, by omega, rfl, rfl, rfl, rfl, by omega, by simp⟩
    case round =>
      obtain ⟨k, m, ob, hk, rfl, rfl, rfl, rfl, hr⟩ := hrel
      have hm := hr.le
      have HR := Lib.hid hr.chk
      clear hr
      by_cases hp : k < s.size
      · obtain ⟨c, hd⟩ := drop_some s k hp
        have hby := run_letter s k c _ hd
        have HD := Lib.hid hd
        clear hd
        by_cases hL : c = 110 ∨ c = 98 ∨ c = 100
        · have HN := Lib.hid (HR.out.trans (by rw [HD.out]; exact chkL_letter hL : _ = Fld.chkL ((nums s).drop (k + 1)) ob true))
          go_wp2_with (go_at_call 114; refine (letter_yes c hL w).mono ?_; rintro e w' ⟨rfl, rfl⟩)
          go_roundw
          case rel => exact ⟨k + 1, m + 1, ob, by omega, by go_num, by first | rfl | trivial, rfl, by go_num, by omega, by rw [HN.out]; simp⟩
          case measure => simp [intOf]; omega
        · by_cases h40 : c = 40
          · subst h40
            cases ob with
            | false =>
              have HN := Lib.hid (HR.out.trans (by rw [HD.out]; exact chkL_open : _ = Fld.chkL ((nums s).drop (k + 1)) true false))
              go_wp2_with (go_at_call 114; refine (letter_no 40 hL w).mono ?_; rintro e w' ⟨rfl, rfl⟩)
              go_roundw
              case rel => exact ⟨k + 1, 0, true, by omega, by go_num, by first | rfl | trivial, rfl, rfl, by omega, by rw [HN.out]; simp⟩
              case measure => simp [intOf]; omega
            | true =>
              have HE := Lib.hid (Fld.chkE_no (HC.out.trans (HR.out.trans (by rw [HD.out]; exact chkL_no (by omega) (by omega) (by omega) (by simp) (by simp)))))
              go_wp2_with (go_at_call 114; refine (letter_no 40 hL w).mono ?_; rintro e w' ⟨rfl, rfl⟩)
              go_ret
              exact ⟨ret_int HE.out.symm, rfl⟩
          · by_cases h41 : c = 41
            · subst h41
              clear h40
              cases ob with
              | false =>
                have HE := Lib.hid (Fld.chkE_no (HC.out.trans (HR.out.trans (by rw [HD.out]; exact chkL_no (by omega) (by omega) (by omega) (by simp) (by simp)))))
                go_wp2_with (go_at_call 114; refine (letter_no 41 hL w).mono ?_; rintro e w' ⟨rfl, rfl⟩)
                go_ret
                exact ⟨ret_int HE.out.symm, rfl⟩
              | true =>
                by_cases h0 : 0 < m
                · have HN := Lib.hid (HR.out.trans (by rw [HD.out, decide_eq_true h0]; exact chkL_close : _ = Fld.chkL ((nums s).drop (k + 1)) false true))
                  go_wp2_with (go_at_call 114; refine (letter_no 41 hL w).mono ?_; rintro e w' ⟨rfl, rfl⟩)
                  go_roundw
                  case rel => exact ⟨k + 1, m, false, by omega, by go_num, by first | rfl | trivial, rfl, rfl, by omega, by rw [HN.out, decide_eq_true h0]⟩
                  case measure => simp [intOf]; omega
                · have HE := Lib.hid (Fld.chkE_no (HC.out.trans (HR.out.trans (by rw [HD.out, decide_eq_false h0]; exact chkL_no (by omega) (by omega) (by omega) (by simp) (by simp)))))
                  go_wp2_with (go_at_call 114; refine (letter_no 41 hL w).mono ?_; rintro e w' ⟨rfl, rfl⟩)
                  go_ret
                  exact ⟨ret_int HE.out.symm, rfl⟩
            · have HE := Lib.hid (Fld.chkE_no (HC.out.trans (HR.out.trans (by rw [HD.out]; exact chkL_no (by omega) (by omega) (by omega) (by omega) (by omega)))))
              have t4 : (c == 40) = false := by rw [beq_eq_false_iff_ne]; omega
              have t5 : (c == 41) = false := by rw [beq_eq_false_iff_ne]; omega
              go_wp2_with (go_at_call 114; refine (letter_no c hL w).mono ?_; rintro e w' ⟨rfl, rfl⟩)
              go_ret
              exact ⟨ret_int HE.out.symm, rfl⟩
      · obtain rfl : k = s.size := by omega
        have HD := Lib.hid (show (nums s).drop s.size = [] by rw [← nums_length, List.drop_length])
        cases ob with
        | false =>
          have HE := Lib.hid (Fld.chkE_ok (HC.out.trans (HR.out.trans (by rw [HD.out]; rfl))))
          go_wp2_with fail
          go_ret
          exact ⟨ret_int HE.out.symm, rfl⟩
        | true =>
          have HE := Lib.hid (Fld.chkE_no (HC.out.trans (HR.out.trans (by rw [HD.out]; rfl))))
          go_wp2_with fail
          go_ret
          exact ⟨ret_int HE.out.symm, rfl⟩
end
section
set_option linter.unusedSimpArgs false
set_option linter.unusedVariables false
open Go.RowKit Sha Nte
theorem ret_boolR {a b : Bool} (h : a = b) : Ending.returned (Value.bool a) = .returned (.bool b) := by rw [h]
set_option maxHeartbeats 400000 in
theorem rwithin_any (n lo hi : Int) (w : World) : Calls Tryz.prog 58 #[.int .i64 n, .int .i64 lo, .int .i64 hi] w fun e w' => e = .returned (.bool (decide (lo ≤ n ∧ n ≤ hi))) ∧ w = w' := by
  go_enter Tryz.func58, Tryz.ntmps58
  by_cases h1 : lo ≤ n
  · have t1 : decide (lo ≤ n) = true := decide_eq_true h1
    have HD := Lib.hid (show decide (n ≤ hi) = decide (lo ≤ n ∧ n ≤ hi) by simp [h1])
    clear h1
    go_wp2_with fail
    go_ret
    exact ⟨ret_boolR HD.out, rfl⟩
  · have t1 : decide (lo ≤ n) = false := decide_eq_false h1
    have HD := Lib.hid (show false = decide (lo ≤ n ∧ n ≤ hi) by simp [h1])
    clear h1
    go_wp2_with fail
    go_ret
    exact ⟨ret_boolR HD.out, rfl⟩
theorem rnode_any (n : Int) (w : World) : Calls Tryz.prog 29 #[.int .i64 n] w fun e w' => e = .returned (.bool (decide (nodeOk n))) ∧ w = w' := by
  have H := Lib.hid (rwithin_any n 1 64 w)
  go_enter Tryz.func29, Tryz.ntmps29
  go_wp2_with fail
  refine H.out.mono ?_
  rintro e w1 ⟨rfl, rfl⟩
  go_wp2_with fail
  go_ret
  exact ⟨ret_boolR (by rw [← Bool.decide_and]; exact decide_eq_decide.2 Iff.rfl), rfl⟩
theorem rset_any (n : Int) (w : World) : Calls Tryz.prog 61 #[.int .i64 n] w fun e w' => e = .returned (.bool (decide (setOk n))) ∧ w = w' := by
  have H := Lib.hid (rwithin_any n 1 2147483647 w)
  go_enter Tryz.func61, Tryz.ntmps61
  go_wp2_with fail
  refine H.out.mono ?_
  rintro e w1 ⟨rfl, rfl⟩
  go_wp2_with fail
  go_ret
  exact ⟨ret_boolR (by rw [← Bool.decide_and]; exact decide_eq_decide.2 Iff.rfl), rfl⟩
def letTab : List Value := [.string ⟨#[]⟩, .string ⟨#[99, 119]⟩, .string ⟨#[99, 119]⟩, .string ⟨#[99, 104, 119]⟩, .string ⟨#[119]⟩, .string ⟨#[99, 115, 100, 104, 120]⟩, .string ⟨#[99, 115, 100, 104, 121]⟩, .string ⟨#[99, 100]⟩, .string ⟨#[99, 100, 121, 120]⟩, .string ⟨#[99, 115, 98]⟩, .string ⟨#[99, 115, 98, 111, 121, 120]⟩, .string ⟨#[99, 115, 98, 120]⟩, .string ⟨#[99, 115, 98, 111, 121]⟩, .string ⟨#[115, 120]⟩, .string ⟨#[99, 115]⟩, .string ⟨#[99, 115, 121, 120]⟩, .string ⟨#[99, 115, 100, 120]⟩, .string ⟨#[99, 115, 100]⟩, .string ⟨#[115, 105]⟩, .string ⟨#[115, 105]⟩]
theorem letTab_at (k : Int) (hk : 1 ≤ k ∧ k ≤ 19) : letTab[k.toNat]? = some (.string (kHas k)) := by
  rcases kinds hk with rfl | rfl | rfl | rfl | rfl | rfl | rfl | rfl | rfl | rfl | rfl | rfl | rfl | rfl | rfl | rfl | rfl | rfl | rfl <;> rfl
set_option maxRecDepth 100000 in
set_option maxHeartbeats 1000000 in
theorem rletters_any (k : Int) (w : World) : Calls Tryz.prog 28 #[.int .i64 k] w fun e w' => e = .returned (.string (kHas k)) ∧ Below w.heap.size w w' := by
  have HB := Lib.hid ((Below.refl _ w).alloc (Nat.le_refl _) (.cells letTab.toArray 9))
  have hk1 : Blk (w.alloc (.cells letTab.toArray 9)) w.heap.size letTab 9 := Blk.new w letTab.toArray 9
  by_cases h1 : 1 ≤ k
  · have t1 : decide (k < 1) = false := decide_eq_false (by omega)
    by_cases h2 : 20 ≤ k
    · have t2 : decide (20 ≤ k) = true := decide_eq_true h2
      have HK := Lib.hid (kHas_no k (by omega))
      rw [HK.out]
      clear h1 h2 hk1
      unfold letTab at HB
      go_enter Tryz.func28, Tryz.ntmps28
      go_wp2_with fail
      go_ret
      exact ⟨rfl, HB.out⟩
    · have t2 : decide (20 ≤ k) = false := decide_eq_false (by omega)
      have HC := Lib.hid (letTab_at k ⟨h1, by omega⟩)
      obtain ⟨m, rfl⟩ : ∃ m : Nat, k = m := ⟨k.toNat, by omega⟩
      obtain ⟨s, hs⟩ : ∃ s, s = kHas m := ⟨_, rfl⟩
      rw [← hs] at HC ⊢
      have c1 : (w.alloc (.cells letTab.toArray 9)).cell? ⟨w.heap.size, m, none⟩ = some (.string s) := (hk1.cell m).trans (by simpa using HC.out)
      have hm : m < 20 := by omega
      have hm2 : (m : Int) < 20 := by omega
      clear h1 h2 hk1 hs HC
      unfold letTab at HB c1
      go_enter Tryz.func28, Tryz.ntmps28
      go_wp2_with fail
      go_ret
      exact ⟨rfl, HB.out⟩
  · have t1 : decide (k < 1) = true := decide_eq_true (by omega)
    have HK := Lib.hid (kHas_no k (by omega))
    rw [HK.out]
    clear h1 hk1
    unfold letTab at HB
    go_enter Tryz.func28, Tryz.ntmps28
    go_wp2_with fail
    go_ret
    exact ⟨rfl, HB.out⟩
set_option maxRecDepth 100000 in
set_option maxHeartbeats 1000000 in
theorem rhas_any (kd c : Int) (w : World) : Calls Tryz.prog 59 #[.int .i64 kd, .int .u8 c] w fun e w' => e = .returned (.bool (decide (c ∈ letters kd))) ∧ Below w.heap.size w w' := by
  have HL := Lib.hid (rletters_any kd w)
  have hsz := kHas_size kd
  have hnm := kHas_nums kd
  generalize kHas kd = t at *
  generalize letters kd = l at *
  have HNM := Lib.hid hnm
  clear hnm
  go_enter Tryz.func59, Tryz.ntmps59
  go_wp2_with fail
  refine HL.out.mono ?_
  rintro e w1 ⟨rfl, hb⟩
  have HB := Lib.hid hb
  clear hb HL
  go_wp2_with fail
  go_loopw [6] (fun i wr => ∃ k : Nat, k ≤ t.size ∧ i = .int .i64 k ∧ w1 = wr ∧ Hid (c ∉ l.take k)) (fun i _ => t.size - (intOf i).toNat)
  case atStart => exact ⟨0, by omega, rfl, rfl, Lib.hid (by simp)⟩
  case round =>
    obtain ⟨k, hk, rfl, rfl, HN⟩ := hrel
    by_cases hp : k < t.size
    · obtain ⟨d, hd⟩ := drop_some t k hp
      have hby := run_letter t k d _ hd
      have HG := Lib.hid (show l[k]? = some d by rw [← HNM.out, ← List.head?_drop, hd]; rfl)
      clear hd
      by_cases hdc : d = c
      · subst hdc
        have HT := Lib.hid (show true = decide (d ∈ l) from (decide_eq_true (List.mem_of_getElem? HG.out)).symm)
        go_wp2_with fail
        go_ret
        exact ⟨ret_boolR HT.out, HB.out⟩
      · have e1 : (d == c) = false := by rw [beq_eq_false_iff_ne]; exact hdc
        have HN2 := Lib.hid (show c ∉ l.take (k + 1) by
          rw [List.take_add_one, HG.out]
          intro h
          rcases List.mem_append.1 h with h | h
          · exact HN.out h
          · simp at h; exact hdc h.symm)
        clear hdc HN
        go_wp2_with fail
        go_roundw
        case rel => exact ⟨k + 1, by omega, by go_num, by first | rfl | trivial, HN2⟩
        case measure => simp [intOf]; omega
    · obtain rfl : k = t.size := by omega
      have HT := Lib.hid (show false = decide (c ∈ l) from (decide_eq_false (by
        have := HN.out
        rwa [List.take_of_length_le (by rw [← HNM.out, nums_length]; exact Nat.le_refl _)] at this)).symm)
      go_wp2_with fail
      go_ret
      exact ⟨ret_boolR HT.out, HB.out⟩
end
section
set_option linter.unusedSimpArgs false
set_option linter.unusedVariables false
open Go.RowKit Sha Nte
open Fld (Itm)
theorem nat_cells (w : World) (cs : List Value) (t : TypeId) (fr : Nat × Nat) : At (w.alloc (.cells cs.toArray t fr)) (some ⟨w.heap.size, 0, none⟩) cs := by
  refine Or.inr ⟨_, 0, rfl, fun i v hi => ?_⟩
  rw [Nat.zero_add, cell_of_row _ _ i _ t fr (heap_alloc_new w _)]
  simpa using hi
theorem nown_at {w : World} {B n size : Nat} {e : TypeId} {v : Value} {xs : List Value} (h : w.ownsRow B e size v n xs) : ∃ p cap, v = .slice p n cap ∧ n ≤ cap ∧ cap ≤ maxLen ∧ At w p xs ∧ xs.length = n * size ∧ (p = none → cap = 0) := by
  rcases h.2 with ⟨hv, h0⟩ | ⟨g, cap, cur, hv, hg, hh, h1, h2, h3, h4⟩
  · refine ⟨none, 0, by rw [hv, h0], by omega, by unfold maxLen; omega, Or.inl ?_, h.1, fun _ => rfl⟩
    have := h.1
    rw [h0] at this
    exact List.eq_nil_of_length_eq_zero (by simpa using this)
  · refine ⟨_, cap, hv, h1, h2, Or.inr ⟨g, 0, rfl, fun i u hu => ?_⟩, h.1, (fun h => by cases h)⟩
    have := h.cells (g := g) (by rw [hv]; rfl) i u hu
    rwa [Addr.add_mid] at this
theorem nrow_below {w w' : World} {B n size : Nat} {e : TypeId} {v : Value} {xs : List Value} (h : w.ownsRow B e size v n xs) (hb : Below w.heap.size w w') : w'.ownsRow B e size v n xs :=
  row_carry h fun k c fz hk hh => (hb.block k (Array.getElem?_eq_some_iff.1 hh).1).trans hh
/-- What a call that writes to rows of one type alone, from a block on, leaves. -/
structure Stays (t : TypeId) (B : Nat) (w w' : World) : Prop where
  bel : ∀ a, Below B a w → Below B a w'
  size : w.heap.size ≤ w'.heap.size
  keep : ∀ (k : Nat) (o : Obj), w.heap[k]? = some o → (∀ cs fz, o ≠ Obj.cells cs t fz) → w'.heap[k]? = some o
namespace Stays
variable {t : TypeId} {B : Nat} {w w' w'' : World}
theorem refl (t : TypeId) (B : Nat) (w : World) : Stays t B w w := ⟨fun _ h => h, Nat.le_refl _, fun _ _ h _ => h⟩
theorem trans (h : Stays t B w w') (k : Stays t B w' w'') : Stays t B w w'' := ⟨fun a h1 => k.bel a (h.bel a h1), Nat.le_trans h.size k.size, fun i o h1 h2 => k.keep i o (h.keep i o h1 h2) h2⟩
theorem below (h : Below w.heap.size w w') (hB : B ≤ w.heap.size) : Stays t B w w' := ⟨fun a h1 => h1.trans (h.mono hB), h.size, fun k o h1 _ => (h.block k (Array.getElem?_eq_some_iff.1 h1).1).trans h1⟩
theorem grown {v : Value} {n size : Nat} {xs : List Value} (ho : w.ownsRow B t size v n xs) (hg : w.grownBy w' v.ownBlock) (hB : B ≤ w.heap.size) : Stays t B w w' :=
  ⟨fun a h1 => h1.grown hg hB (fun k e => row_base ho k e), hg.size, fun k o h1 h2 => (hg.block k (Array.getElem?_eq_some_iff.1 h1).1 (fun e => by
    obtain ⟨c, fz, hh⟩ := row_kind ho k e.symm
    rw [h1] at hh; exact h2 _ _ (Option.some.inj hh))).trans h1⟩
theorem blk (h : Stays t B w w') {g : Nat} {cs : List Value} {e : TypeId} (hb : Blk w g cs e) (he : e ≠ t) : Blk w' g cs e := h.keep g _ hb (fun cs' fz e' => by injection e' with _ h2; exact he h2)
theorem iter (h : Stays t B w w') {g : Nat} {s : ByteArray} {p : Nat} (hb : w.heap[g]? = some (.stringIter s p)) : w'.heap[g]? = some (.stringIter s p) := h.keep g _ hb (fun _ _ e => by cases e)
end Stays
def nNh (n : Int) : Hdr := (iN n, none, 0)
def nDh (D : List Int) : Hdr := (iD D, none, 0)
theorem nitem_zsize : (Value.agg (icells ⟨0, [], Fld.zero32⟩ none 0).toArray).cells.size = 34 := by
  unfold icells; rfl
theorem execOp_nmakeItem (ρ : Operand → Value) (dst : Option Tmp) (parts : Array (Nat × Operand)) (ty : TypeId) (pos : String) (after : Array Edge) (guard : Option (Nat × Bool)) :
    execOp ρ { dst := dst, op := .build 118 parts, type := ty, pos := pos, after := after, guard := guard } = makeOp 118 (parts.map fun (i, x) => (i, ρ x)) := by unfold makeOp; rfl
theorem nitem_bN (n : Int) : Tryz.prog.built 118 [(0, .int .i64 n)] = some (icells (iN n) none 0).toArray := by unfold icells; kernel_rfl
theorem nitem_bB (b : List Int) (q : Option Addr) (n c : Nat) (hn : n = b.length) : Tryz.prog.built 118 [(1, .slice q n c)] = some (icells (iB b) q c).toArray := by subst hn; unfold icells; kernel_rfl
theorem nlen32 {α : Type} (l : List α) (h : l.length = 32) : ∃ a0 a1 a2 a3 a4 a5 a6 a7 a8 a9 a10 a11 a12 a13 a14 a15 a16 a17 a18 a19 a20 a21 a22 a23 a24 a25 a26 a27 a28 a29 a30 a31, l = [a0, a1, a2, a3, a4, a5, a6, a7, a8, a9, a10, a11, a12, a13, a14, a15, a16, a17, a18, a19, a20, a21, a22, a23, a24, a25, a26, a27, a28, a29, a30, a31] := by
  obtain ⟨a0, l, rfl⟩ := List.exists_cons_of_length_eq_add_one h
  replace h := Nat.succ.inj h
  obtain ⟨a1, l, rfl⟩ := List.exists_cons_of_length_eq_add_one h
  replace h := Nat.succ.inj h
  obtain ⟨a2, l, rfl⟩ := List.exists_cons_of_length_eq_add_one h
  replace h := Nat.succ.inj h
  obtain ⟨a3, l, rfl⟩ := List.exists_cons_of_length_eq_add_one h
  replace h := Nat.succ.inj h
  obtain ⟨a4, l, rfl⟩ := List.exists_cons_of_length_eq_add_one h
  replace h := Nat.succ.inj h
  obtain ⟨a5, l, rfl⟩ := List.exists_cons_of_length_eq_add_one h
  replace h := Nat.succ.inj h
  obtain ⟨a6, l, rfl⟩ := List.exists_cons_of_length_eq_add_one h
  replace h := Nat.succ.inj h
  obtain ⟨a7, l, rfl⟩ := List.exists_cons_of_length_eq_add_one h
  replace h := Nat.succ.inj h
  obtain ⟨a8, l, rfl⟩ := List.exists_cons_of_length_eq_add_one h
  replace h := Nat.succ.inj h
  obtain ⟨a9, l, rfl⟩ := List.exists_cons_of_length_eq_add_one h
  replace h := Nat.succ.inj h
  obtain ⟨a10, l, rfl⟩ := List.exists_cons_of_length_eq_add_one h
  replace h := Nat.succ.inj h
  obtain ⟨a11, l, rfl⟩ := List.exists_cons_of_length_eq_add_one h
  replace h := Nat.succ.inj h
  obtain ⟨a12, l, rfl⟩ := List.exists_cons_of_length_eq_add_one h
  replace h := Nat.succ.inj h
  obtain ⟨a13, l, rfl⟩ := List.exists_cons_of_length_eq_add_one h
  replace h := Nat.succ.inj h
  obtain ⟨a14, l, rfl⟩ := List.exists_cons_of_length_eq_add_one h
  replace h := Nat.succ.inj h
  obtain ⟨a15, l, rfl⟩ := List.exists_cons_of_length_eq_add_one h
  replace h := Nat.succ.inj h
  obtain ⟨a16, l, rfl⟩ := List.exists_cons_of_length_eq_add_one h
  replace h := Nat.succ.inj h
  obtain ⟨a17, l, rfl⟩ := List.exists_cons_of_length_eq_add_one h
  replace h := Nat.succ.inj h
  obtain ⟨a18, l, rfl⟩ := List.exists_cons_of_length_eq_add_one h
  replace h := Nat.succ.inj h
  obtain ⟨a19, l, rfl⟩ := List.exists_cons_of_length_eq_add_one h
  replace h := Nat.succ.inj h
  obtain ⟨a20, l, rfl⟩ := List.exists_cons_of_length_eq_add_one h
  replace h := Nat.succ.inj h
  obtain ⟨a21, l, rfl⟩ := List.exists_cons_of_length_eq_add_one h
  replace h := Nat.succ.inj h
  obtain ⟨a22, l, rfl⟩ := List.exists_cons_of_length_eq_add_one h
  replace h := Nat.succ.inj h
  obtain ⟨a23, l, rfl⟩ := List.exists_cons_of_length_eq_add_one h
  replace h := Nat.succ.inj h
  obtain ⟨a24, l, rfl⟩ := List.exists_cons_of_length_eq_add_one h
  replace h := Nat.succ.inj h
  obtain ⟨a25, l, rfl⟩ := List.exists_cons_of_length_eq_add_one h
  replace h := Nat.succ.inj h
  obtain ⟨a26, l, rfl⟩ := List.exists_cons_of_length_eq_add_one h
  replace h := Nat.succ.inj h
  obtain ⟨a27, l, rfl⟩ := List.exists_cons_of_length_eq_add_one h
  replace h := Nat.succ.inj h
  obtain ⟨a28, l, rfl⟩ := List.exists_cons_of_length_eq_add_one h
  replace h := Nat.succ.inj h
  obtain ⟨a29, l, rfl⟩ := List.exists_cons_of_length_eq_add_one h
  replace h := Nat.succ.inj h
  obtain ⟨a30, l, rfl⟩ := List.exists_cons_of_length_eq_add_one h
  replace h := Nat.succ.inj h
  obtain ⟨a31, l, rfl⟩ := List.exists_cons_of_length_eq_add_one h
  replace h := Nat.succ.inj h
  have h0 := List.eq_nil_of_length_eq_zero h
  subst h0
  exact ⟨_, _, _, _, _, _, _, _, _, _, _, _, _, _, _, _, _, _, _, _, _, _, _, _, _, _, _, _, _, _, _, _, rfl⟩
theorem nitem_bD (D : List Int) (h : D.length = 32) : Tryz.prog.built 118 [(2, .agg (D.map v8).toArray)] = some (icells (iD D) none 0).toArray := by
  obtain ⟨a0, a1, a2, a3, a4, a5, a6, a7, a8, a9, a10, a11, a12, a13, a14, a15, a16, a17, a18, a19, a20, a21, a22, a23, a24, a25, a26, a27, a28, a29, a30, a31, rfl⟩ := nlen32 D h
  unfold icells
  kernel_rfl
theorem nmake_iN (n : Int) (w : World) : (makeOp 118 #[(0, .int .i64 n)]).run Tryz.prog w = .ok (.value (.agg (icells (iN n) none 0).toArray)) w := run_makeOp w (nitem_bN n)
theorem nmake_iB (b : List Int) (q : Option Addr) (n c : Nat) (hn : n = b.length) (w : World) : (makeOp 118 #[(1, .slice q n c)]).run Tryz.prog w = .ok (.value (.agg (icells (iB b) q c).toArray)) w := run_makeOp w (nitem_bB b q n c hn)
theorem nmake_iD (D : List Int) (h : D.length = 32) (w : World) : (makeOp 118 #[(2, .agg (D.map v8).toArray)]).run Tryz.prog w = .ok (.value (.agg (icells (iD D) none 0).toArray)) w := run_makeOp w (nitem_bD D h)
theorem nz32_ok : (∀ n ∈ Fld.zero32, 0 ≤ n ∧ n ≤ 255) ∧ Fld.zero32.length = 32 := ⟨by intro n hn; unfold Fld.zero32 at hn; have := (List.mem_replicate.1 hn).2; omega, Fld.zero32_length⟩
theorem niN_good (w : World) {n : Int} (h : fit n) : GoodI w (iN n) none 0 := ⟨iN_ok h, At.nil _ _, by simp [iN], by omega, fun _ => rfl⟩
theorem niD_good (w : World) {D : List Int} (h : ∀ n ∈ D, 0 ≤ n ∧ n ≤ 255) (hl : D.length = 32) : GoodI w (iD D) none 0 := ⟨iD_ok h hl, At.nil _ _, by simp [iD], by omega, fun _ => rfl⟩
theorem niB_good {w : World} {x : Not} {h : NHd} (g : NGood w x h) : GoodI w (iB x.X) h.q h.c := ⟨iB_ok g.ok.X, g.X, g.Xc, g.Xm, g.Xn⟩
/-- What a note has by a letter: items, and where their bytes lie. -/
def hdrs (x : Not) (h : NHd) (c : Int) : List Hdr := if c = 120 then [(iB x.X, h.q, h.c)] else (its x c).map fun i => (i, none, 0)
theorem hdrs_map (x : Not) (h : NHd) (c : Int) : (hdrs x h c).map (·.1) = its x c := by
  unfold hdrs
  split
  · rename_i e; subst e; simp [its]
  · rw [List.map_map]; exact List.map_id' _
theorem hdrs_good {w : World} {x : Not} {h : NHd} (g : NGood w x h) {c : Int} (hc : isT c) : ∀ y ∈ hdrs x h c, GoodI w y.1 y.2.1 y.2.2 := by
  have n0 : fit (yes x.Y) := by unfold yes fit; split <;> omega
  have gB := niB_good g
  have gD := niD_good w g.ok.D g.ok.len
  intro y hy
  rcases hc with rfl | rfl | rfl | rfl | rfl | rfl | rfl | rfl | rfl | rfl <;> simp [hdrs, its] at hy
  · rcases hy with rfl | rfl | rfl
    · exact niN_good w g.ok.C.1
    · exact niN_good w g.ok.C.2.1
    · exact niN_good w g.ok.C.2.2
  · rcases hy with rfl | rfl
    · exact niN_good w g.ok.B.1
    · exact niN_good w g.ok.B.2
  · rcases hy with rfl | rfl
    · exact niN_good w g.ok.O.1
    · exact niN_good w g.ok.O.2
  · rw [hy]; exact gD
  · rw [hy]; exact gB
  · rcases hy with rfl | ⟨i, ⟨d, hd, rfl⟩, rfl⟩
    · exact niN_good w ⟨by omega, by have := g.ok.Il; omega⟩
    · exact niD_good w (g.ok.I d hd).1 (g.ok.I d hd).2
  · rcases hy with rfl | ⟨i, ⟨m, hm, hi⟩, rfl⟩
    · exact niN_good w ⟨by omega, by have := g.ok.Wl; omega⟩
    · have hm := g.ok.W m hm
      unfold w3 at hi
      simp at hi
      rcases hi with rfl | rfl | rfl
      · exact niN_good w hm.i
      · exact niN_good w hm.s
      · exact niN_good w hm.n
  · rw [hy]; exact niN_good w g.ok.S
  · rw [hy]; exact niN_good w g.ok.H
  · rw [hy]; exact niN_good w n0
theorem item_ne_int : (3 : TypeId) ≠ 118 := by decide
/-- What a call that adds items to others leaves. -/
def PWith (B : Nat) (ys zs : List Hdr) (w : World) (e : Ending) (w' : World) : Prop :=
  ∃ v', e = .returned v' ∧ w'.ownsRow B 118 34 v' (ys.length + zs.length) ((ys ++ zs).flatMap cellsI) ∧ Stays 118 B w w'
section
attribute [local go_sem ↓] execOp_nmakeItem execOp_buildItems
set_option maxRecDepth 100000 in
set_option maxHeartbeats 2000000 in
theorem wnums_any (B : Nat) (ys : List Hdr) (v : Value) (ns : List Int) (k : Nat) (hk : k = ns.length) (gn : Nat) (w : World) (hf : ∀ n ∈ ns, fit n) (hv : w.ownsRow B 118 34 v ys.length (ys.flatMap cellsI)) (hn : Blk w gn (ns.map nic) 3) (hB : B ≤ w.heap.size) (hle : ys.length ≤ 100000) (hk3 : k ≤ 3) :
    Calls Tryz.prog 81 #[v, .slice (some ⟨gn, 0, none⟩) k k] w (PWith B ys (ns.map nNh) w) := by
  have HF := Lib.hid hf
  have HV := Lib.hid hv
  have HN := Lib.hid hn
  have HB := Lib.hid hB
  have HK := Lib.hid hk
  clear hf hv hn hB hk
  go_enter Tryz.func81, Tryz.ntmps81
  go_wp2_with fail
  go_loopw [0, 9] (fun vv i wr => ∃ (j : Nat) (u : Value), u = vv ∧ i = .int .i64 j ∧ j ≤ k ∧ Hid (wr.ownsRow B 118 34 u (ys.length + j) ((ys ++ (ns.take j).map nNh).flatMap cellsI)) ∧ Hid (Stays 118 B w wr)) (fun _ i _ => k - (intOf i).toNat)
  case atStart => exact ⟨0, v, rfl, rfl, by omega, Lib.hid (by simpa using HV.out), Lib.hid (Stays.refl _ _ _)⟩
  case round =>
    obtain ⟨j, u, rfl, rfl, hj, HO, HS⟩ := hrel
    clear HV
    by_cases hlt : j < k
    · have hjn : j < ns.length := by rw [← HK.out]; exact hlt
      have HNr := Lib.hid (HS.out.blk HN.out item_ne_int)
      have cj : wr.cell? ⟨gn, j, none⟩ = some (nic ns[j]) := by rw [HNr.out.cell]; simp [hjn]
      have HTK := Lib.hid (show (ns.take (j + 1)).map nNh = (ns.take j).map nNh ++ [nNh ns[j]] from by
        rw [List.take_succ_eq_append_getElem hjn, List.map_append]; rfl)
      have hfj := HF.out _ (List.getElem_mem hjn)
      have HBr := Lib.hid (Nat.le_trans HB.out HS.out.size)
      generalize ns[j] = m at *
      have mk := fun w => nmake_iN m w
      have yok : (iN m : Itm).ok := iN_ok hfj
      have bi := build_item wr (q := none) (c := 0) yok
      have HL := Lib.hid (icells_length yok none 0)
      have HA := Lib.hid (nat_cells wr (icells (iN m) none 0) 118 (0, 0))
      have HO2 := Lib.hid (HO.out.alloc (.cells (icells (iN m) none 0).toArray 118))
      have HS2 := Lib.hid (HS.out.trans (Stays.below (t := 118) ((Below.refl _ wr).alloc (Nat.le_refl _) (.cells (icells (iN m) none 0).toArray 118)) HBr.out))
      have HB2 := Lib.hid (show B ≤ (wr.alloc (.cells (icells (iN m) none 0).toArray 118)).heap.size from by have := HBr.out; simp; omega)
      clear hfj yok hjn HO HS HNr
      go_wp2_with (at_builtin; refine wpList_app_s rfl (.tmp 13) (.tmp 16) 67 rfl B 118 (size := 34) (by omega) Tryz.underlying67 item_all3 nitem_zsize u (ys.length + j) _ rfl HO2.out (some ⟨wr.heap.size, 0, none⟩) 1 1 (icells (iN m) none 0) rfl HA.out (by rw [HL.out]) (fun h => by cases h) (Nat.le_refl _) (icells_one _ _ _) (by omega) (by unfold maxLen; omega) HB2.out ?_; intro v8' w8 hown8 hgr8 hat8)
      have HS8 := Lib.hid (HS2.out.trans (Stays.grown HO2.out hgr8 HB2.out))
      have HO8 := Lib.hid (show w8.ownsRow B 118 34 v8' (ys.length + (j + 1)) ((ys ++ (ns.take (j + 1)).map nNh).flatMap cellsI) from by
        rw [HTK.out, ← List.append_assoc, List.flatMap_append, List.flatMap_singleton]; exact hown8)
      clear hown8 hgr8 hat8 HO2 HS2 HB2 HA HL HTK
      go_wp2_with fail
      go_roundw
      case rel => exact ⟨j + 1, _, rfl, by go_num, by omega, HO8, HS8⟩
      case measure => simp [intOf]; omega
    · obtain rfl : j = k := by omega
      have HTL := Lib.hid (show ns.take j = ns from List.take_of_length_le (by rw [← HK.out]; exact Nat.le_refl _))
      go_wp2_with fail
      go_ret
      refine ⟨_, rfl, ?_, HS.out⟩
      have := HO.out
      rw [HTL.out] at this
      rw [List.length_map, ← HK.out]
      exact this
end
set_option maxHeartbeats 1000000 in
theorem wtruth_any (b : Bool) (w : World) : Calls Tryz.prog 116 #[.bool b] w fun e w' => e = .returned (.int .i64 (yes b)) ∧ w = w' := by
  cases b with
  | false =>
    go_enter Tryz.func116, Tryz.ntmps116
    go_wp2_with fail
    go_ret
    exact ⟨rfl, rfl⟩
  | true =>
    go_enter Tryz.func116, Tryz.ntmps116
    go_wp2_with fail
    go_ret
    exact ⟨rfl, rfl⟩
end
section
set_option linter.unusedSimpArgs false
set_option linter.unusedVariables false
open Go.RowKit Sha Nte
section
variable (ρ : Operand → Value) (dst : Option Tmp) (ty : TypeId) (pos : String) (after : Array Edge) (guard : Option (Nat × Bool)) (x : Operand)
theorem execOp_boxCallR : execOp ρ { dst := dst, op := .box 23 x, type := ty, pos := pos, after := after, guard := guard } = boxOp 23 (ρ x) := by unfold boxOp; rfl
theorem execOp_boxBalR : execOp ρ { dst := dst, op := .box 25 x, type := ty, pos := pos, after := after, guard := guard } = boxOp 25 (ρ x) := by unfold boxOp; rfl
end
section
attribute [local go_sem ↓] execOp_boxCallR execOp_boxBalR
set_option maxRecDepth 100000 in
set_option maxHeartbeats 1000000 in
theorem rcall_any (a b c : Int) (w : World) : Calls Tryz.prog 60 #[.agg #[nic a, nic b, nic c]] w fun e w' => e = .returned (.bool (decide (nodeOk a ∧ setOk b ∧ setOk c))) ∧ Below w.heap.size w w' := by
  have bx := run_boxOp (P := Tryz.prog) (t := 23) (cs := #[nic a, nic b, nic c]) w
  have HB := Lib.hid ((Below.refl _ w).alloc (Nat.le_refl _) (.cells #[nic a, nic b, nic c] 23))
  have hk : Blk (w.alloc (.cells #[nic a, nic b, nic c] 23)) w.heap.size [nic a, nic b, nic c] 23 := Blk.new w #[nic a, nic b, nic c] 23
  obtain ⟨w1, hw1⟩ : ∃ v, v = w.alloc (.cells #[nic a, nic b, nic c] 23) := ⟨_, rfl⟩
  rw [← hw1] at bx HB hk
  have c0 : w1.cell? ⟨w.heap.size, 0, none⟩ = some (nic a) := hk.cell 0
  have c1 : w1.cell? ⟨w.heap.size, 1, none⟩ = some (nic b) := hk.cell 1
  have c2 : w1.cell? ⟨w.heap.size, 2, none⟩ = some (nic c) := hk.cell 2
  have H1 := Lib.hid (rnode_any a w1)
  have H2 := Lib.hid (rset_any b w1)
  have H3 := Lib.hid (rset_any c w1)
  clear hw1 hk
  obtain ⟨b1, hb1⟩ : ∃ v, v = decide (nodeOk a) := ⟨_, rfl⟩
  obtain ⟨b2, hb2⟩ : ∃ v, v = decide (setOk b) := ⟨_, rfl⟩
  obtain ⟨b3, hb3⟩ : ∃ v, v = decide (setOk c) := ⟨_, rfl⟩
  have HD := Lib.hid (show (b1 && (b2 && b3)) = decide (nodeOk a ∧ setOk b ∧ setOk c) by rw [hb1, hb2, hb3, ← Bool.decide_and, ← Bool.decide_and])
  rw [← hb1] at H1
  rw [← hb2] at H2
  rw [← hb3] at H3
  clear hb1 hb2 hb3
  go_enter Tryz.func60, Tryz.ntmps60
  go_wp2_with fail
  refine H1.out.mono ?_
  rintro e w2 ⟨rfl, rfl⟩
  cases b1 with
  | false =>
    go_wp2_with fail
    go_ret
    exact ⟨ret_boolR HD.out, HB.out⟩
  | true =>
    go_wp2_with fail
    refine H2.out.mono ?_
    rintro e w2 ⟨rfl, rfl⟩
    cases b2 with
    | false =>
      go_wp2_with fail
      go_ret
      exact ⟨ret_boolR HD.out, HB.out⟩
    | true =>
      go_wp2_with fail
      refine H3.out.mono ?_
      rintro e w2 ⟨rfl, rfl⟩
      go_wp2_with fail
      go_ret
      exact ⟨ret_boolR HD.out, HB.out⟩
set_option maxRecDepth 100000 in
set_option maxHeartbeats 1000000 in
theorem rballot_any (a b : Int) (w : World) : Calls Tryz.prog 62 #[.agg #[nic a, nic b]] w fun e w' => e = .returned (.bool (decide (setOk a ∧ nodeOk b))) ∧ Below w.heap.size w w' := by
  have bx := run_boxOp (P := Tryz.prog) (t := 25) (cs := #[nic a, nic b]) w
  have HB := Lib.hid ((Below.refl _ w).alloc (Nat.le_refl _) (.cells #[nic a, nic b] 25))
  have hk : Blk (w.alloc (.cells #[nic a, nic b] 25)) w.heap.size [nic a, nic b] 25 := Blk.new w #[nic a, nic b] 25
  obtain ⟨w1, hw1⟩ : ∃ v, v = w.alloc (.cells #[nic a, nic b] 25) := ⟨_, rfl⟩
  rw [← hw1] at bx HB hk
  have c0 : w1.cell? ⟨w.heap.size, 0, none⟩ = some (nic a) := hk.cell 0
  have c1 : w1.cell? ⟨w.heap.size, 1, none⟩ = some (nic b) := hk.cell 1
  have H1 := Lib.hid (rwithin_any a 1 2147483647 w1)
  have H2 := Lib.hid (rnode_any b w1)
  clear hw1 hk
  obtain ⟨b1, hb1⟩ : ∃ v, v = decide (1 ≤ a ∧ a ≤ 2147483647) := ⟨_, rfl⟩
  obtain ⟨b2, hb2⟩ : ∃ v, v = decide (nodeOk b) := ⟨_, rfl⟩
  have HD := Lib.hid (show (b1 && b2) = decide (setOk a ∧ nodeOk b) by rw [hb1, hb2, ← Bool.decide_and]; exact decide_eq_decide.2 Iff.rfl)
  rw [← hb1] at H1
  rw [← hb2] at H2
  clear hb1 hb2
  go_enter Tryz.func62, Tryz.ntmps62
  go_wp2_with fail
  refine H1.out.mono ?_
  rintro e w2 ⟨rfl, rfl⟩
  cases b1 with
  | false =>
    go_wp2_with fail
    go_ret
    exact ⟨ret_boolR HD.out, HB.out⟩
  | true =>
    go_wp2_with fail
    refine H2.out.mono ?_
    rintro e w2 ⟨rfl, rfl⟩
    go_wp2_with fail
    go_ret
    exact ⟨ret_boolR HD.out, HB.out⟩
end
theorem may_nextR (l : List Mb) (k : Nat) (hk : k < l.length) (h : ∀ m ∈ l.take k, m.May) (hm : l[k].May) : ∀ m ∈ l.take (k + 1), m.May := by
  intro m hm2
  rw [List.take_succ_eq_append_getElem hk] at hm2
  rcases List.mem_append.1 hm2 with h2 | h2
  · exact h m h2
  · rw [List.mem_singleton.1 h2]; exact hm
set_option maxRecDepth 100000 in
set_option maxHeartbeats 2000000 in
theorem rwords_any (l : List Mb) (n : Nat) (q : Option Addr) (c : Nat) (w : World) (hl : sW.Told w q n c l) : Calls Tryz.prog 63 #[.slice q n c] w fun e w' => e = .returned (.bool (decide ((∀ m ∈ l, m.May) ∧ l.length ≤ 64))) ∧ w = w' := by
  have HL := Lib.hid hl
  have HN := Lib.hid hl.len
  have b1 := hl.le
  have b2 := hl.max
  clear hl
  go_enter Tryz.func63, Tryz.ntmps63
  go_wp2_with fail
  go_loopw [3] (fun i wr => ∃ k : Nat, i = .int .i64 k ∧ k ≤ n ∧ Hid (∀ m ∈ l.take k, m.May) ∧ w = wr) (fun i _ => n - (intOf i).toNat)
  case atStart => exact ⟨0, rfl, by omega, Lib.hid (by simp), rfl⟩
  case round =>
    obtain ⟨k, rfl, hk, HT, rfl⟩ := hrel
    by_cases hlt : k < n
    · have hk1 : k < l.length := by rw [← HN.out]; exact hlt
      obtain ⟨b, off, q1, c1, rfl, hr, hg⟩ := HL.out.rows.get k hk1
      have hr : w.rangeAt b (off + k * 3) (nmc l[k]) := hr
      have jk : (0 : Int) ≤ (k : Int) ∧ (k : Int) < (n : Int) := by omega
      have c0 : w.cell? ⟨b, off + k * 3, none⟩ = some (nic l[k].I) := hr 0 _ rfl
      have c1 : w.cell? ⟨b, off + k * 3 + 1, none⟩ = some (nic l[k].S) := hr 1 _ rfl
      have c2 : w.cell? ⟨b, off + k * 3 + 2, none⟩ = some (nic l[k].N) := hr 2 _ rfl
      have H1 := Lib.hid (rnode_any l[k].I w)
      have H2 := Lib.hid (rwithin_any l[k].S 1 4 w)
      have H3 := Lib.hid (rwithin_any l[k].N 0 2147483647 w)
      obtain ⟨d1, hd1⟩ : ∃ v, v = decide (nodeOk l[k].I) := ⟨_, rfl⟩
      obtain ⟨d2, hd2⟩ : ∃ v, v = decide (1 ≤ l[k].S ∧ l[k].S ≤ 4) := ⟨_, rfl⟩
      obtain ⟨d3, hd3⟩ : ∃ v, v = decide (0 ≤ l[k].N ∧ l[k].N ≤ 2147483647) := ⟨_, rfl⟩
      have HD := Lib.hid (show (d1 && (d2 && d3)) = decide (l[k].May) by rw [hd1, hd2, hd3, ← Bool.decide_and, ← Bool.decide_and]; refine decide_eq_decide.2 ?_; unfold nodeOk Mb.May; omega)
      rw [← hd1] at H1
      rw [← hd2] at H2
      rw [← hd3] at H3
      have HX := Lib.hid (may_nextR l k hk1 HT.out)
      have HNO := Lib.hid (show ¬ l[k].May → false = decide ((∀ m ∈ l, m.May) ∧ l.length ≤ 64) from fun h => (decide_eq_false (fun e => h (e.1 _ (List.getElem_mem hk1)))).symm)
      generalize l[k].I = x1 at *
      generalize l[k].S = x2 at *
      generalize l[k].N = x3 at *
      generalize l[k] = y at *
      clear hr hg hd1 hd2 hd3 HT hk1
      go_wp2_with fail
      refine H1.out.mono ?_
      rintro e w2 ⟨rfl, rfl⟩
      cases d1 with
      | false =>
        have HR := Lib.hid (HNO.out (of_decide_eq_false HD.out.symm))
        go_wp2_with fail
        try rw [Exit.noGoto_ret]
        go_ret
        exact ⟨ret_boolR HR.out, rfl⟩
      | true =>
        go_wp2_with fail
        refine H2.out.mono ?_
        rintro e w2 ⟨rfl, rfl⟩
        cases d2 with
        | false =>
          have HR := Lib.hid (HNO.out (of_decide_eq_false HD.out.symm))
          go_wp2_with fail
          try rw [Exit.noGoto_ret]
          go_ret
          exact ⟨ret_boolR HR.out, rfl⟩
        | true =>
          go_wp2_with fail
          refine H3.out.mono ?_
          rintro e w2 ⟨rfl, rfl⟩
          cases d3 with
          | false =>
            have HR := Lib.hid (HNO.out (of_decide_eq_false HD.out.symm))
            go_wp2_with fail
            try rw [Exit.noGoto_ret]
            go_ret
            exact ⟨ret_boolR HR.out, rfl⟩
          | true =>
            have HT2 := Lib.hid (HX.out (of_decide_eq_true HD.out.symm))
            go_wp2_with fail
            go_roundw
            case rel => exact ⟨k + 1, by go_num, by omega, HT2, by first | rfl | trivial⟩
            case measure => simp [intOf]; omega
    · obtain rfl : n = k := by omega
      have HV := Lib.hid (show decide ((n : Int) ≤ 64) = decide ((∀ m ∈ l, m.May) ∧ l.length ≤ 64) from decide_eq_decide.2 (by
        have h1 := HT.out
        rw [List.take_of_length_le (by rw [← HN.out]; exact Nat.le_refl _)] at h1
        have := HN.out
        exact ⟨fun h => ⟨h1, by omega⟩, fun h => by omega⟩))
      clear HT
      go_wp2_with fail
      go_ret
      exact ⟨ret_boolR HV.out, rfl⟩
end
section
set_option linter.unusedSimpArgs false
set_option linter.unusedVariables false
open Go.RowKit Sha Nte
theorem isT_or {c : Int} (h : isT c) : c = 99 ∨ c = 98 ∨ c = 111 ∨ c = 100 ∨ c = 120 ∨ c = 105 ∨ c = 119 ∨ c = 115 ∨ c = 104 ∨ c = 121 := by unfold isT at h; omega
section
attribute [local go_sem ↓] execOp_catW
set_option maxRecDepth 100000 in
set_option maxHeartbeats 4000000 in
theorem rshape_any (kd : Int) (w : World) : Calls Tryz.prog 46 #[.int .i64 kd] w fun e w' => e = .returned (.string (shS kd)) ∧ Below w.heap.size w w' := by
  have HL := Lib.hid (rletters_any kd w)
  have hsz := kHas_size kd
  have hnm := kHas_nums kd
  have HIS := Lib.hid (letters_isT kd)
  unfold shS
  generalize kHas kd = t at *
  generalize letters kd = l at *
  have HNM := Lib.hid hnm
  clear hnm
  go_enter Tryz.func46, Tryz.ntmps46
  go_wp2_with fail
  refine HL.out.mono ?_
  rintro e w1 ⟨rfl, hb⟩
  have HB := Lib.hid hb
  clear hb HL
  go_wp2_with fail
  go_loopw [4, 5] (fun o i wr => ∃ (j : Nat) (s : ByteArray), o = .string s ∧ i = .int .i64 j ∧ j ≤ t.size ∧ s.size ≤ 3 + 5 * j ∧ Hid (s = shF (l.take j)) ∧ w1 = wr) (fun _ i _ => t.size - (intOf i).toNat)
  case atStart => exact ⟨0, _, rfl, rfl, by omega, by decide, Lib.hid (by rw [List.take_zero]; rfl), rfl⟩
  case round =>
    obtain ⟨j, s, rfl, rfl, hk, hs, HS, rfl⟩ := hrel
    by_cases hp : j < t.size
    · obtain ⟨ch, hd⟩ := drop_some t j hp
      have hby := run_letter t j ch _ hd
      have HG := Lib.hid (show l[j]? = some ch by rw [← HNM.out, ← List.head?_drop, hd]; rfl)
      have hc := isT_or (HIS.out ch (List.mem_of_getElem? HG.out))
      have z1 : s.size + (shB ch).size ≤ 1000000 := by have := shB_size ch; omega
      have cat := fun x y w => run_catW x y s (shB ch) z1 w
      have HS2 := Lib.hid (show s ++ shB ch = shF (l.take (j + 1)) by
        rw [List.take_add_one, HG.out, HS.out]; exact (shF_next _ _).symm)
      have z2 : (s ++ shB ch).size ≤ 3 + 5 * (j + 1) := by have := shB_size ch; rw [ByteArray.size_append]; omega
      clear hd HG HS z1
      rcases hc with rfl | rfl | rfl | rfl | rfl | rfl | rfl | rfl | rfl | rfl
      · rw [show shB 99 = ⟨#[110, 110, 110]⟩ from rfl] at cat HS2 z2
        go_wp2_with fail
        go_roundw
        case rel => exact ⟨j + 1, _, rfl, by go_num, by omega, z2, HS2, by first | rfl | trivial⟩
        case measure => simp [intOf]; omega
      · rw [show shB 98 = ⟨#[110, 110]⟩ from rfl] at cat HS2 z2
        go_wp2_with fail
        go_roundw
        case rel => exact ⟨j + 1, _, rfl, by go_num, by omega, z2, HS2, by first | rfl | trivial⟩
        case measure => simp [intOf]; omega
      · rw [show shB 111 = ⟨#[110, 110]⟩ from rfl] at cat HS2 z2
        go_wp2_with fail
        go_roundw
        case rel => exact ⟨j + 1, _, rfl, by go_num, by omega, z2, HS2, by first | rfl | trivial⟩
        case measure => simp [intOf]; omega
      · rw [show shB 100 = ⟨#[100]⟩ from rfl] at cat HS2 z2
        go_wp2_with fail
        go_roundw
        case rel => exact ⟨j + 1, _, rfl, by go_num, by omega, z2, HS2, by first | rfl | trivial⟩
        case measure => simp [intOf]; omega
      · rw [show shB 120 = ⟨#[98]⟩ from rfl] at cat HS2 z2
        go_wp2_with fail
        go_roundw
        case rel => exact ⟨j + 1, _, rfl, by go_num, by omega, z2, HS2, by first | rfl | trivial⟩
        case measure => simp [intOf]; omega
      · rw [show shB 105 = ⟨#[40, 100, 41]⟩ from rfl] at cat HS2 z2
        go_wp2_with fail
        go_roundw
        case rel => exact ⟨j + 1, _, rfl, by go_num, by omega, z2, HS2, by first | rfl | trivial⟩
        case measure => simp [intOf]; omega
      · rw [show shB 119 = ⟨#[40, 110, 110, 110, 41]⟩ from rfl] at cat HS2 z2
        go_wp2_with fail
        go_roundw
        case rel => exact ⟨j + 1, _, rfl, by go_num, by omega, z2, HS2, by first | rfl | trivial⟩
        case measure => simp [intOf]; omega
      · rw [show shB 115 = ⟨#[110]⟩ from rfl] at cat HS2 z2
        go_wp2_with fail
        go_roundw
        case rel => exact ⟨j + 1, _, rfl, by go_num, by omega, z2, HS2, by first | rfl | trivial⟩
        case measure => simp [intOf]; omega
      · rw [show shB 104 = ⟨#[110]⟩ from rfl] at cat HS2 z2
        go_wp2_with fail
        go_roundw
        case rel => exact ⟨j + 1, _, rfl, by go_num, by omega, z2, HS2, by first | rfl | trivial⟩
        case measure => simp [intOf]; omega
      · rw [show shB 121 = ⟨#[110]⟩ from rfl] at cat HS2 z2
        go_wp2_with fail
        go_roundw
        case rel => exact ⟨j + 1, _, rfl, by go_num, by omega, z2, HS2, by first | rfl | trivial⟩
        case measure => simp [intOf]; omega
    · obtain rfl : j = t.size := by omega
      have HR := Lib.hid (show s = shF l from by rw [HS.out, List.take_of_length_le (by rw [← HNM.out, nums_length]; exact Nat.le_refl _)])
      go_wp2_with fail
      go_ret
      exact ⟨by rw [HR.out]; rfl, HB.out⟩
end
end
end Go.Proofs.YtbogjfmefkhglaaGreat
