/-
  Plain mathematics of notes, two: which may be, what is read back; no note's bytes begin with another one's; what is got of any bytes.
-/
import Derived.Test.YteepaoklibflpaaR6
namespace Go.Proofs.Yteepaoklibflpaa
section
set_option linter.unusedSimpArgs false
set_option linter.unusedVariables false
namespace Nte
open Fld (Itm zero32)
open Frm (Bytes)
def fit (n : Int) : Prop := -9223372036854775808 ≤ n ∧ n ≤ 9223372036854775807
/-- What any note in memory is. -/
structure Not.ok (x : Not) : Prop where
  K : fit x.K
  F : fit x.F
  T : fit x.T
  C : fit x.C1 ∧ fit x.C2 ∧ fit x.C3
  S : fit x.S
  H : fit x.H
  B : fit x.B1 ∧ fit x.B2
  O : fit x.O1 ∧ fit x.O2
  D : Bytes x.D
  len : x.D.length = 32
  X : Bytes x.X
  Xl : x.X.length ≤ 9223372036854775807
  I : ∀ d ∈ x.I, Bytes d ∧ d.length = 32
  Il : x.I.length ≤ 9223372036854775807
  W : ∀ m ∈ x.W, m.ok
  Wl : x.W.length ≤ 9223372036854775807
theorem zero_bytes : Bytes zero32 := by intro n hn; unfold Fld.zero32 at hn; have := (List.mem_replicate.1 hn).2; omega
theorem none_ok : none_.ok := by
  refine ⟨?_, ?_, ?_, ?_, ?_, ?_, ?_, ?_, zero_bytes, Fld.zero32_length, ?_, ?_, ?_, ?_, ?_, ?_⟩ <;> simp [none_, fit, Bytes]
def setOk (n : Int) : Prop := 1 ≤ n ∧ n ≤ 2147483647
def nodeOk (n : Int) : Prop := 1 ≤ n ∧ n ≤ 64
instance (n : Int) : Decidable (setOk n) := by unfold setOk; infer_instance
instance (n : Int) : Decidable (nodeOk n) := by unfold nodeOk; infer_instance
def Call (x : Not) : Prop := nodeOk x.C1 ∧ setOk x.C2 ∧ setOk x.C3
def NoCall (x : Not) : Prop := x.C1 = 0 ∧ x.C2 = 0 ∧ x.C3 = 0
instance (x : Not) : Decidable (Call x) := by unfold Call; infer_instance
instance (x : Not) : Decidable (NoCall x) := by unfold NoCall; infer_instance
/-- May the numbers be? -/
def Nums (x : Not) : Prop :=
  (if 99 ∈ letters x.K then Call x else NoCall x) ∧ (if 115 ∈ letters x.K then setOk x.S else x.S = 0) ∧ (if 104 ∈ letters x.K then nodeOk x.H else x.H = 0) ∧
  (if 98 ∈ letters x.K then setOk x.B1 ∧ nodeOk x.B2 else x.B1 = 0 ∧ x.B2 = 0) ∧ ((x.O1 = 0 ∧ x.O2 = 0) ∨ (111 ∈ letters x.K ∧ setOk x.O1 ∧ nodeOk x.O2 ∧ ¬ (x.K = 12 ∧ x.Y = true)))
/-- May the others be? -/
def Rest (x : Not) : Prop :=
  (x.Y = true → 121 ∈ letters x.K) ∧ (x.D = zero32 ∨ 100 ∈ letters x.K) ∧ (x.X = [] ∨ (120 ∈ letters x.K ∧ (121 ∈ letters x.K → x.Y = true))) ∧
  (x.I = [] ∨ 105 ∈ letters x.K) ∧ x.I.length ≤ 64 ∧ (x.W = [] ∨ 119 ∈ letters x.K) ∧ x.W.length ≤ 64 ∧ ∀ m ∈ x.W, m.May
instance (x : Not) : Decidable (Nums x) := by unfold Nums; infer_instance
instance (x : Not) : Decidable (Rest x) := by unfold Rest; infer_instance
def Can (x : Not) : Prop := (1 ≤ x.K ∧ x.K ≤ 19) ∧ nodeOk x.F ∧ nodeOk x.T ∧ x.F ≠ x.T ∧ Nums x ∧ Rest x
instance (x : Not) : Decidable (Can x) := by unfold Can; infer_instance
def check (x : Not) : Int := if Can x then (if 4000 < (inner x).length then 3 else 0) else 2
theorem check_zero {x : Not} (h : check x = 0) : Can x ∧ (inner x).length ≤ 4000 := by
  unfold check at h
  split at h
  · split at h
    · cases h
    · exact ⟨by assumption, by omega⟩
  · cases h
theorem check_of {x : Not} (h : Can x) (hl : (inner x).length ≤ 4000) : check x = 0 := by unfold check; rw [if_pos h, if_neg (by omega)]
theorem check_no {x : Not} (h : ¬ Can x) : check x = 2 := by unfold check; rw [if_neg h]
theorem check_long {x : Not} (h : Can x) (hl : 4000 < (inner x).length) : check x = 3 := by unfold check; rw [if_pos h, if_pos hl]
theorem big_of {n : Int} {p : Prop} [Decidable p] (h : if p then setOk n else n = 0) : big n := by unfold big; split at h <;> (try unfold setOk at h) <;> omega
theorem big_of' {n : Int} {p : Prop} [Decidable p] (h : if p then nodeOk n else n = 0) : big n := by unfold big; split at h <;> (try unfold nodeOk at h) <;> omega
theorem node_big {n : Int} (h : nodeOk n) : big n := by unfold nodeOk at h; unfold big; omega
theorem set_big {n : Int} (h : setOk n) : big n := by unfold setOk at h; unfold big; omega
theorem zero_big : big 0 := by unfold big; omega
theorem Can.fits {x : Not} (h : Can x) (hx : x.X.length ≤ 4000) : Fits x := by
  obtain ⟨hk, hf, ht, _, ⟨hc, hs, hh, hb, ho⟩, _, _, _, _, hi, _, hw, hm⟩ := h
  refine ⟨⟨by omega, by omega⟩, node_big hf, node_big ht, ?_, big_of hs, big_of' hh, ?_, ?_, hx, by omega, by omega, ?_⟩
  · split at hc
    · exact ⟨node_big hc.1, set_big hc.2.1, set_big hc.2.2⟩
    · rw [hc.1, hc.2.1, hc.2.2]; exact ⟨zero_big, zero_big, zero_big⟩
  · split at hb
    · exact ⟨set_big hb.1, node_big hb.2⟩
    · rw [hb.1, hb.2]; exact ⟨zero_big, zero_big⟩
  · rcases ho with ho | ho
    · rw [ho.1, ho.2]; exact ⟨zero_big, zero_big⟩
    · exact ⟨set_big ho.2.1, node_big ho.2.2.1⟩
  · intro m h
    have := hm m h
    unfold Mb.May at this
    exact ⟨⟨by omega, by omega⟩, ⟨by omega, by omega⟩, ⟨by omega, by omega⟩⟩
/-- The bytes hold the data. -/
theorem inner_data {x : Not} (h : Can x) : x.X.length ≤ (inner x).length := by
  rcases h.2.2.2.2.2.2.2.1 with e | e
  · simp [e]
  · have : ∀ ls : List Int, 120 ∈ ls → x.X.length ≤ (ls.flatMap (enb x)).length := by
      intro ls
      induction ls with
      | nil => intro h; simp at h
      | cons c ls ih =>
        intro h
        rw [List.flatMap_cons, List.length_append]
        rcases List.mem_cons.1 h with rfl | h
        · simp [enb]; omega
        · have := ih h; omega
    have := this _ e.1
    unfold inner
    simp only [List.length_append]; omega
theorem Can.fits' {x : Not} (h : check x = 0) : Fits x := (check_zero h).1.fits (by have := inner_data (check_zero h).1; have := (check_zero h).2; omega)
/-! ### Reading back -/
def nN (l : List Itm) (i : Nat) : Int := (l.getD i (iN 0)).N
def words : Nat → List Itm → List Mb
  | n + 1, a :: b :: c :: l => ⟨a.N, b.N, c.N⟩ :: words n l
  | _, _ => []
/-- A letter's field, of items. -/
def fld (c : Int) (st : Not × List Itm) : Not × List Itm :=
  if c = 99 then ({ st.1 with C1 := nN st.2 0, C2 := nN st.2 1, C3 := nN st.2 2 }, st.2.drop 3) else if c = 98 then ({ st.1 with B1 := nN st.2 0, B2 := nN st.2 1 }, st.2.drop 2) else
  if c = 111 then ({ st.1 with O1 := nN st.2 0, O2 := nN st.2 1 }, st.2.drop 2) else if c = 100 then ({ st.1 with D := (st.2.getD 0 (iN 0)).D }, st.2.drop 1) else
  if c = 120 then ({ st.1 with X := (st.2.getD 0 (iN 0)).B }, st.2.drop 1) else if c = 105 then ({ st.1 with I := ((st.2.drop 1).take (nN st.2 0).toNat).map (·.D) }, st.2.drop (1 + (nN st.2 0).toNat)) else
  if c = 119 then ({ st.1 with W := words (nN st.2 0).toNat (st.2.drop 1) }, st.2.drop (1 + 3 * (nN st.2 0).toNat)) else if c = 115 then ({ st.1 with S := nN st.2 0 }, st.2.drop 1) else
  if c = 104 then ({ st.1 with H := nN st.2 0 }, st.2.drop 1) else ({ st.1 with Y := decide (nN st.2 0 = 1) }, st.2.drop 1)
/-- .. of a note. -/
def setf (x : Not) (y : Not) (c : Int) : Not :=
  if c = 99 then { y with C1 := x.C1, C2 := x.C2, C3 := x.C3 } else if c = 98 then { y with B1 := x.B1, B2 := x.B2 } else if c = 111 then { y with O1 := x.O1, O2 := x.O2 } else
  if c = 100 then { y with D := x.D } else if c = 120 then { y with X := x.X } else if c = 105 then { y with I := x.I } else if c = 119 then { y with W := x.W } else
  if c = 115 then { y with S := x.S } else if c = 104 then { y with H := x.H } else { y with Y := x.Y }
theorem words_of (L : List Mb) (l : List Itm) : words L.length (L.flatMap w3 ++ l) = L ∧ (L.flatMap w3 ++ l).drop (3 * L.length) = l := by
  induction L with
  | nil => simp [words]
  | cons m L ih =>
    constructor
    · simp only [List.length_cons, List.flatMap_cons, w3, List.cons_append, List.nil_append, words, iN]
      rw [ih.1]
    · simp only [List.length_cons, List.flatMap_cons, w3, List.cons_append, List.nil_append]
      rw [show 3 * (L.length + 1) = 3 * L.length + 3 by omega]
      simp only [List.drop_succ_cons]
      exact ih.2
theorem ids_of (L : List (List Int)) (l : List Itm) : (((L.flatMap fun d => [iD d]) ++ l).take L.length).map (·.D) = L ∧ ((L.flatMap fun d => [iD d]) ++ l).drop L.length = l := by
  induction L with
  | nil => simp
  | cons m L ih =>
    constructor
    · simp only [List.length_cons, List.flatMap_cons, List.cons_append, List.nil_append, List.take_succ_cons, List.map_cons, ih.1]; rfl
    · simp only [List.length_cons, List.flatMap_cons, List.cons_append, List.nil_append, List.drop_succ_cons, ih.2]
theorem fld_its {c : Int} (hc : isT c) (x y : Not) (l : List Itm) : fld c (y, its x c ++ l) = (setf x y c, l) := by
  rcases hc with rfl | rfl | rfl | rfl | rfl | rfl | rfl | rfl | rfl | rfl
  · simp [fld, its, setf, nN, iN]
  · simp [fld, its, setf, nN, iN]
  · simp [fld, its, setf, nN, iN]
  · simp [fld, its, setf, nN, iN, iD]
  · simp [fld, its, setf, nN, iN, iB]
  · have h := ids_of x.I l
    simp only [fld, its, setf, nN]
    simp
    rw [show (iN x.I.length).N = (x.I.length : Int) from rfl, show ((x.I.length : Nat) : Int).toNat = x.I.length by omega, show 1 + x.I.length = x.I.length + 1 by omega, List.drop_succ_cons, h.2]
    simpa using h.1
  · have h := words_of x.W l
    simp only [fld, its, setf, nN]
    simp
    rw [show (iN x.W.length).N = (x.W.length : Int) from rfl, show ((x.W.length : Nat) : Int).toNat = x.W.length by omega, show 1 + 3 * x.W.length = 3 * x.W.length + 1 by omega, List.drop_succ_cons, h.2, h.1]
    simp
  · simp [fld, its, setf, nN, iN]
  · simp [fld, its, setf, nN, iN]
  · simp [fld, its, setf, nN, iN, yes]
theorem fold_its (x : Not) (ls : List Int) : ∀ (hl : ∀ c ∈ ls, isT c) (y : Not) (l : List Itm), ls.foldl (fun st c => fld c st) (y, ls.flatMap (its x) ++ l) = (ls.foldl (setf x) y, l) := by
  induction ls with
  | nil => intro _ y l; rfl
  | cons c ls ih =>
    intro hl y l
    rw [List.flatMap_cons, List.append_assoc, List.foldl_cons, fld_its (hl c (List.mem_cons_self ..)), ih (fun c hc => hl c (List.mem_cons_of_mem _ hc)), List.foldl_cons]
def base (k f t : Int) : Not := { none_ with K := k, F := f, T := t }
def of (l : List Itm) : Not := ((letters (nN l 0)).foldl (fun st c => fld c st) (base (nN l 0) (nN l 1) (nN l 2), l.drop 3)).1
theorem set_all {x : Not} (h : Can x) : (letters x.K).foldl (setf x) (base x.K x.F x.T) = x := by
  obtain ⟨hk, _, _, _, ⟨hc, hs, hh, hb, ho⟩, hy, hd, hX, hi, _, hw, _, _⟩ := h
  obtain ⟨K, F, T, C1, C2, C3, S, H, B1, B2, O1, O2, Y, D, X, I, W⟩ := x
  simp only at *
  unfold NoCall at hc
  have : K = 1 ∨ K = 2 ∨ K = 3 ∨ K = 4 ∨ K = 5 ∨ K = 6 ∨ K = 7 ∨ K = 8 ∨ K = 9 ∨ K = 10 ∨ K = 11 ∨ K = 12 ∨ K = 13 ∨ K = 14 ∨ K = 15 ∨ K = 16 ∨ K = 17 ∨ K = 18 ∨ K = 19 := by omega
  rcases this with rfl | rfl | rfl | rfl | rfl | rfl | rfl | rfl | rfl | rfl | rfl | rfl | rfl | rfl | rfl | rfl | rfl | rfl | rfl <;>
    simp [letters] at hc hs hh hb ho hy hd hX hi hw <;> simp [letters, setf, base, none_, *]
theorem of_items {x : Not} (h : Can x) : of (items x) = x := by
  have h0 : nN (items x) 0 = x.K := rfl
  have h1 : nN (items x) 1 = x.F := rfl
  have h2 : nN (items x) 2 = x.T := rfl
  have h3 : (items x).drop 3 = (letters x.K).flatMap (its x) ++ [] := by simp [items]
  unfold of
  rw [h0, h1, h2, h3, fold_its x _ (letters_isT _), set_all h]
theorem iN_ok {n : Int} (h : fit n) : (iN n).ok := ⟨h.1, h.2, by simp [iN], zero_bytes, Fld.zero32_length⟩
theorem iD_ok {d : List Int} (h : Bytes d) (hl : d.length = 32) : (iD d).ok := ⟨by simp [iD], by simp [iD], by simp [iD], h, hl⟩
theorem iB_ok {b : List Int} (h : Bytes b) : (iB b).ok := ⟨by simp [iB], by simp [iB], h, zero_bytes, Fld.zero32_length⟩
theorem items_ok {x : Not} (h : x.ok) : ∀ i ∈ items x, i.ok := by
  intro i hi
  unfold items at hi
  simp only [List.mem_cons] at hi
  rcases hi with rfl | rfl | rfl | hi
  · exact iN_ok h.K
  · exact iN_ok h.F
  · exact iN_ok h.T
  · obtain ⟨c, hc, hi⟩ := List.mem_flatMap.1 hi
    have hT := letters_isT _ c hc
    clear hc
    rcases hT with rfl | rfl | rfl | rfl | rfl | rfl | rfl | rfl | rfl | rfl <;> simp [its] at hi
    · rcases hi with rfl | rfl | rfl
      · exact iN_ok h.C.1
      · exact iN_ok h.C.2.1
      · exact iN_ok h.C.2.2
    · rcases hi with rfl | rfl
      · exact iN_ok h.B.1
      · exact iN_ok h.B.2
    · rcases hi with rfl | rfl
      · exact iN_ok h.O.1
      · exact iN_ok h.O.2
    · rw [hi]; exact iD_ok h.D h.len
    · rw [hi]; exact iB_ok h.X
    · rcases hi with rfl | ⟨d, hd, rfl⟩
      · exact iN_ok ⟨by omega, by have := h.Il; omega⟩
      · exact iD_ok (h.I d hd).1 (h.I d hd).2
    · rcases hi with rfl | ⟨m, hm, hi⟩
      · exact iN_ok ⟨by omega, by have := h.Wl; omega⟩
      · have hm := h.W m hm
        unfold w3 at hi
        simp at hi
        rcases hi with rfl | rfl | rfl
        · exact iN_ok hm.i
        · exact iN_ok hm.s
        · exact iN_ok hm.n
    · rw [hi]; exact iN_ok h.S
    · rw [hi]; exact iN_ok h.H
    · rw [hi]; exact iN_ok (by unfold yes fit; split <;> omega)
/-! ### Bytes -/
theorem inner_kind {x : Not} (h : big x.K) : Fld.rd 0 0 (inner x) = (0, x.K, (n8 x.K).length) := by
  unfold inner n8 big at *
  rw [Fld.rd_num x.K.toNat 0 0 _ (by omega) (by omega)]
  simp; omega
/-- Two notes that may be and have the same bytes within are the same. -/
theorem inner_inj {x y : Not} (hx : x.ok) (hy : y.ok) (cx : check x = 0) (cy : check y = 0) (h : inner x = inner y) : x = y := by
  have fx := Can.fits' cx
  have fy := Can.fits' cy
  have hK : x.K = y.K := by
    have := (inner_kind fx.K).symm.trans ((congrArg (Fld.rd 0 0) h).trans (inner_kind fy.K))
    exact (Prod.mk.inj (Prod.mk.inj this).2).1
  have gx := Fld.get_put (items_ok hx) (put_items fx)
  have gy := Fld.get_put (items_ok hy) (put_items fy)
  rw [h, hK, gy] at gx
  have := (Prod.mk.inj gx).1
  rw [← of_items (check_zero cx).1, ← of_items (check_zero cy).1, this]
theorem n8_bytes (n : Int) : Bytes (n8 n) := Fld.num_bd _
theorem wb_bytes (m : Mb) : Bytes (wb m) := ((n8_bytes _).append (n8_bytes _)).append (n8_bytes _)
theorem flat_bytes {α : Type} {f : α → List Int} {l : List α} (h : ∀ a ∈ l, Bytes (f a)) : Bytes (l.flatMap f) := by
  intro n hn
  obtain ⟨a, ha, hn⟩ := List.mem_flatMap.1 hn
  exact h a ha n hn
theorem inner_bytes {x : Not} (h : x.ok) : Bytes (inner x) := by
  unfold inner
  refine (n8_bytes _).append ((n8_bytes _).append ((n8_bytes _).append (flat_bytes ?_)))
  intro c _
  unfold enb
  have hD := h.D
  have hX := (n8_bytes x.X.length).append h.X
  have hI := (n8_bytes x.I.length).append (flat_bytes (f := fun d => d) fun d hd => (h.I d hd).1)
  have hW := (n8_bytes x.W.length).append (flat_bytes (f := wb) (l := x.W) fun m _ => wb_bytes m)
  (repeat' split) <;> first | exact hD | exact hX | exact hI | exact hW | exact (((n8_bytes _).append (n8_bytes _)).append (n8_bytes _)) | exact ((n8_bytes _).append (n8_bytes _)) | exact n8_bytes _
theorem inner_pos (x : Not) : 1 ≤ (inner x).length := by
  unfold inner
  rw [List.length_append]
  have : 0 < (n8 x.K).length := Fld.num_pos _
  omega
theorem inner_rec {x : Not} (h : check x = 0) : Frm.Rec (inner x) := ⟨inner_pos x, (check_zero h).2⟩
def put (x : Not) : List Int × Int := if check x = 0 then (Frm.fr (inner x), 0) else ([], check x)
theorem put_ok {x : Not} (h : check x = 0) : put x = (Frm.fr (inner x), 0) := by unfold put; rw [if_pos h]
theorem put_no {x : Not} (h : check x ≠ 0) : put x = ([], check x) := by unfold put; rw [if_neg h]
theorem put_err (x : Not) : (put x).2 = check x := by
  by_cases h : check x = 0
  · rw [put_ok h, h]
  · rw [put_no h]
theorem put_zero {x : Not} {b : List Int} (h : put x = (b, 0)) : check x = 0 ∧ b = Frm.fr (inner x) := by
  have h0 : check x = 0 := by rw [← put_err, h]
  rw [put_ok h0] at h
  exact ⟨h0, (Prod.mk.inj h).1.symm⟩
/-- No note's bytes begin with another one's. -/
theorem put_begin {x y : Not} (hx : x.ok) (hy : y.ok) {b r s : List Int} {c : List Int} (px : put x = (b, 0)) (py : put y = (c, 0)) (h : b ++ r = c ++ s) : x = y := by
  obtain ⟨cx, rfl⟩ := put_zero px
  obtain ⟨cy, rfl⟩ := put_zero py
  have := congrArg Frm.stands h
  rw [Frm.stands_fr (inner_rec cx), Frm.stands_fr (inner_rec cy)] at this
  exact inner_inj hx hy cx cy this
theorem put_apart {x y : Not} (hx : x.ok) (hy : y.ok) {b c : List Int} (px : put x = (b, 0)) (py : put y = (c, 0)) (n : Nat) (hn : n = min b.length c.length) : b.take n = c.take n ↔ x = y := by
  constructor
  · intro h
    by_cases hl : b.length ≤ c.length
    · have hn : n = b.length := by omega
      rw [hn, List.take_length] at h
      refine put_begin hx hy px py (r := c.drop b.length) (s := []) ?_
      rw [List.append_nil]
      conv => rhs; rw [← List.take_append_drop b.length c, ← h]
    · have hn : n = c.length := by omega
      rw [hn, List.take_length] at h
      refine put_begin hx hy px py (r := []) (s := b.drop c.length) ?_
      rw [List.append_nil]
      conv => lhs; rw [← List.take_append_drop c.length b, h]
  · rintro rfl
    rw [px] at py
    rw [(Prod.mk.inj py).1]
/-- The note of which these are the bytes. -/
noncomputable def get (b : List Int) : Not × Int := open Classical in if h : ∃ x : Not, x.ok ∧ put x = (b, 0) then (h.choose, 0) else (none_, 10)
theorem get_of {x : Not} {b : List Int} (hx : x.ok) (h : put x = (b, 0)) : get b = (x, 0) := by
  have he : ∃ x : Not, x.ok ∧ put x = (b, 0) := ⟨x, hx, h⟩
  unfold get
  rw [dif_pos he]
  rw [put_begin (r := []) (s := []) he.choose_spec.1 hx he.choose_spec.2 h rfl]
theorem get_no {b : List Int} (h : ∀ x : Not, x.ok → put x ≠ (b, 0)) : get b = (none_, 10) := by
  unfold get
  rw [dif_neg (fun ⟨x, hx, e⟩ => h x hx e)]
theorem get_cases (b : List Int) : (∃ x : Not, x.ok ∧ put x = (b, 0) ∧ get b = (x, 0)) ∨ ((∀ x : Not, x.ok → put x ≠ (b, 0)) ∧ get b = (none_, 10)) := by
  by_cases h : ∃ x : Not, x.ok ∧ put x = (b, 0)
  · obtain ⟨x, hx, e⟩ := h
    exact Or.inl ⟨x, hx, e, get_of hx e⟩
  · have h' : ∀ x : Not, x.ok → put x ≠ (b, 0) := fun x hx e => h ⟨x, hx, e⟩
    exact Or.inr ⟨h', get_no h'⟩
/-- Without its last byte, or with one more, what is a note's is none's. -/
theorem get_less {x : Not} (hx : x.ok) {b : List Int} {z : Int} (h : put x = (b ++ [z], 0)) : get b = (none_, 10) := by
  refine get_no fun y hy e => ?_
  have := put_begin hy hx e h (r := [z]) (s := []) (by simp)
  subst this
  rw [h] at e
  have := congrArg List.length (Prod.mk.inj e).1
  simp at this
theorem get_more {x : Not} (hx : x.ok) {b : List Int} {z : Int} (h : put x = (b, 0)) : get (b ++ [z]) = (none_, 10) := by
  refine get_no fun y hy e => ?_
  have := put_begin hx hy h e (r := [z]) (s := []) (by simp)
  subst this
  rw [h] at e
  have := congrArg List.length (Prod.mk.inj e).1
  simp at this
/-- What is read of bytes, if they are a note's. -/
theorem of_put {x : Not} (hx : x.ok) (h : check x = 0) : Fld.get (shape x.K) (inner x) = (items x, 0, 0) ∧ of (items x) = x :=
  ⟨Fld.get_put (items_ok hx) (put_items (Can.fits' h)), of_items (check_zero h).1⟩
theorem split_put {x : Not} (h : check x = 0) : Frm.split (Frm.fr (inner x)) = ([inner x], (Frm.fr (inner x)).length) := by
  have := Frm.split_join (l := [inner x]) (by intro b hb; simp at hb; subst hb; exact inner_rec h)
  simpa [Frm.frs] using this
end Nte
end
end Go.Proofs.Yteepaoklibflpaa
