/-
  The program's drop: nothing is kept or lacked of a set any more.
  A state's things built; the hint that a fact is about (written by mkmk9.py).
  The program's slices.Delete at hints: one taken out of a row of the call's own.
-/
import Derived.Test.YtokpabkcaofahaaGreatPb33
namespace Go.Proofs.YtokpabkcaofahaaGreat
section
set_option linter.unusedSimpArgs false
set_option linter.unusedVariables false
open Go.RowKit Sha Fct
theorem run_store_fn {P : Program} (w : World) (a : Addr) (m : Mode) (fn : Fn) (x y : Array Value) : (store a (.func fn x y) m).run P w = stored P w a (.func fn x y) m := run_store P w a _ m rfl
attribute [local go_sem ↓] execOp_boxFact
attribute [local go_sem] run_store_fn
theorem setCell_grown (w : World) (g o : Nat) (v : Value) : w.grownBy (w.setCell ⟨g, o, none⟩ v) (some g) := setCells_grown w g o [v]
def takeK (f : Fac) (x : Int × Fct.Id) : Bool := decide (x.1 = f.S)
def takeH (f : Fac) (x : Int × Int × Fct.Id) : Bool := decide (x.2.1 = f.S)
/-- Behind the first k questions: the ids of those that go are taken. -/
def IT (f : Fac) (q : Option Addr) (c gt gf gm mb : Nat) (S0 : List Fct.Id) (ps : List (Int × Fct.Id)) (w : World) (k : Nat) : Prop :=
  ∃ S, Takn w mb S ∧ TkB w f q c gt gf gm mb ∧ ∀ d, d ∈ S ↔ (d ∈ S0 ∨ ∃ p ∈ ps.take k, p.1 = f.S ∧ p.2 = d)
section
variable {f : Fac} {q : Option Addr} {c gt gf gm mb : Nat} {S0 : List Fct.Id} {ps : List (Int × Fct.Id)} {w w' : World} {k : Nat}
theorem IT.step {S : List Fct.Id} (hb : TkB w f q c gt gf gm mb) (hm : IsMapB w mb) (hs : ∀ d, d ∈ S ↔ (d ∈ S0 ∨ ∃ p ∈ ps.take k, p.1 = f.S ∧ p.2 = d)) (hk : k < ps.length) (hg : w.grownBy w' (some mb)) (hT : Takn w' mb (tk1 f ps[k].1 ps[k].2 S)) : IT f q c gt gf gm mb S0 ps w' (k + 1) := by
  refine ⟨_, hT, hb.grown hg (fun j cs t e hj => absurd (by cases e; rfl) (isMap_ne hm hj)), fun d => ?_⟩
  rw [List.take_succ_eq_append_getElem hk]
  unfold tk1
  split
  · rename_i h
    rw [mem_more1, hs d]
    simp only [List.mem_append, List.mem_singleton]
    constructor
    · rintro ((h1 | ⟨p, h1, h2⟩) | h1)
      · exact Or.inl h1
      · exact Or.inr ⟨p, Or.inl h1, h2⟩
      · exact Or.inr ⟨_, Or.inr rfl, h, h1.symm⟩
    · rintro (h1 | ⟨p, h1 | rfl, h2⟩)
      · exact Or.inl (Or.inl h1)
      · exact Or.inl (Or.inr ⟨p, h1, h2⟩)
      · exact Or.inr h2.2.symm
  · rename_i h
    rw [hs d]
    simp only [List.mem_append, List.mem_singleton]
    constructor
    · rintro (h1 | ⟨p, h1, h2⟩)
      · exact Or.inl h1
      · exact Or.inr ⟨p, Or.inl h1, h2⟩
    · rintro (h1 | ⟨p, h1 | rfl, h2⟩)
      · exact Or.inl h1
      · exact Or.inr ⟨p, h1, h2⟩
      · exact absurd h2.1 h
theorem IT.stays {row : Option Nat} {t : TypeId} (h : IT f q c gt gf gm mb S0 ps w k) (hg : w.grownBy w' row) (hr : RowTy w row t) (ht : t ≠ 221 ∧ t ≠ 28 ∧ t ≠ 215) : IT f q c gt gf gm mb S0 ps w' k := by
  obtain ⟨S, h1, h2, h3⟩ := h
  refine ⟨S, h1.grown hg hr, h2.grown hg fun j cs t' e hj => ?_, h3⟩
  obtain ⟨c2, f2, h4⟩ := hr j e
  unfold Blk at hj
  rw [hj] at h4; simp at h4
  obtain rfl := h4.2.1
  exact ht
theorem IT.map (h : IT f q c gt gf gm mb S0 ps w k) : IsMapB w mb := by
  obtain ⟨S, h1, _⟩ := h
  exact h1.isMap
end
theorem prdK (f : Fac) (q : Option Addr) (c gt gf gm mb : Nat) (S0 : List Fct.Id) (ys : List (Hd (Int × Fct.Id))) (hok : ∀ y ∈ ys, sK.ok y.1) : PrdK mb (.pointer (some ⟨gt, 0, none⟩)) (takeK f) ys (IT f q c gt gf gm mb S0 (ys.map (·.1))) where
  call w k hk h := by
    obtain ⟨S, h1, h2, h3⟩ := h
    refine (tk2_any _ _ _ (hok _ (List.getElem_mem hk)) f q c gt gf gm mb S w h2 h1).mono ?_
    rintro e w' ⟨rfl, hT, hg⟩
    exact ⟨rfl, IT.step h2 h1.isMap h3 (by simpa using hk) hg (by simpa using hT), hg⟩
  stays w w' k row h hg hr := h.stays hg hr (by decide)
  map w k h := h.map
theorem prdH (f : Fac) (q : Option Addr) (c gt gf gm mb : Nat) (S0 : List Fct.Id) (ys : List (Hd (Int × Int × Fct.Id))) (hok : ∀ y ∈ ys, sH.ok y.1) : PrdH mb (.pointer (some ⟨gt, 0, none⟩)) (takeH f) ys (IT f q c gt gf gm mb S0 (ys.map fun y => (y.1.2.1, y.1.2.2))) where
  call w k hk h := by
    obtain ⟨S, h1, h2, h3⟩ := h
    refine (tk3_any _ _ _ (hok _ (List.getElem_mem hk)) f q c gt gf gm mb S w h2 h1).mono ?_
    rintro e w' ⟨rfl, hT, hg⟩
    exact ⟨rfl, IT.step h2 h1.isMap h3 (by simpa using hk) hg (by simpa using hT), hg⟩
  stays w w' k row h hg hr := h.stays hg hr (by decide)
  map w k h := h.map
theorem blk_state {w w' : World} {B g mb : Nat} {s : Ste} {r : Rows9} {row : Option Nat} {t : TypeId} (h : StO w B g s r) (hc : Chg (fun k => row = some k ∨ k = mb) w w') (hr : RowTy w row t) (ht : rowT t) (hm : IsMapB w mb) : Blk w' g (ocells s r) 47 := by
  refine hc.blk h.blk ?_
  rintro (e | e)
  · obtain ⟨c2, f2, h2⟩ := hr g e
    have h3 := h.blk
    unfold Blk at h3
    rw [h3] at h2; simp at h2
    exact (rowT_ne ht).2 h2.2.1.symm
  · exact isMap_ne hm h.blk e.symm
set_option maxRecDepth 100000 in
set_option maxHeartbeats 4000000 in
theorem drop_any (w : World) (B g : Nat) (s : Ste) (r : Rows9) (f : Fac) (q : Option Addr) (c : Nat) (h : StO w B g s r) (hf : f.K = 10) (hn : r.yb.length ≤ 1000000000) (hn1 : r.yk.length ≤ 1000000000) (hn2 : r.yh.length ≤ 1000000000) :
    Calls Tryz.prog 135 #[.pointer (some ⟨g, 0, none⟩), .agg (fcells f q c).toArray] w (StOP B g (fun _ => False) (s.less f) w) := by
  have bx := run_boxOp (P := Tryz.prog) (t := 28) (cs := (fcells f q c).toArray) w
  have hmm : (Instr.makeMap 215 none).run Tryz.prog (w.alloc (.cells (fcells f q c).toArray 28)) = .ok (.map (some (w.alloc (.cells (fcells f q c).toArray 28)).heap.size)) ((w.alloc (.cells (fcells f q c).toArray 28)).alloc (.map #[] 0)) := run_makeMap _ _
  have hb1 := (Below.refl w.heap.size w).alloc (Nat.le_refl _) (.cells (fcells f q c).toArray 28)
  have hk1 : Blk (w.alloc (.cells (fcells f q c).toArray 28)) w.heap.size (fcells f q c) 28 := Blk.new w _ _
  obtain ⟨gf, hgf⟩ : ∃ b, b = w.heap.size := ⟨_, rfl⟩
  generalize hw1 : w.alloc (.cells (fcells f q c).toArray 28) = w1 at *
  have hT2 := Takn.new w1
  have hb2 := hb1.alloc hb1.size (.map #[] 0)
  have hk2 : Blk (w1.alloc (.map #[] 0)) w.heap.size (fcells f q c) 28 := hk1.old _
  obtain ⟨mb, hmb⟩ : ∃ b, b = w1.heap.size := ⟨_, rfl⟩
  have hmw : w.heap.size ≤ mb := by rw [hmb]; exact hb1.size
  rw [← hmb] at hT2 hmm
  generalize w1.alloc (.map #[] 0) = w2 at *
  have hk3 : Blk (w2.alloc (.cells #[.map (some mb)] 215)) w2.heap.size [.map (some mb)] 215 := Blk.new w2 _ _
  have hs3 : (w2.alloc (.cells #[.map (some mb)] 215)).heap.size = w2.heap.size + 1 := World.size_alloc ..
  have hk4 := Blk.new (w2.alloc (.cells #[.map (some mb)] 215)) #[Value.func (.func 163) #[] #[.pointer (some ⟨w.heap.size, 0, none⟩), .pointer (some ⟨w2.heap.size, 0, none⟩)]] 221
  rw [hs3] at hk4
  have hb3 := (hb2.alloc hb2.size (.cells #[.map (some mb)] 215)).alloc (by rw [hs3]; have := hb2.size; omega) (.cells #[Value.func (.func 163) #[] #[.pointer (some ⟨w.heap.size, 0, none⟩), .pointer (some ⟨w2.heap.size, 0, none⟩)]] 221)
  have hk5 := hk3.old (.cells #[Value.func (.func 163) #[] #[.pointer (some ⟨w.heap.size, 0, none⟩), .pointer (some ⟨w2.heap.size, 0, none⟩)]] 221)
  have hk6 := (hk2.old (.cells #[.map (some mb)] 215)).old (.cells #[Value.func (.func 163) #[] #[.pointer (some ⟨w.heap.size, 0, none⟩), .pointer (some ⟨w2.heap.size, 0, none⟩)]] 221)
  have hT5 := (hT2.below ((Below.refl w2.heap.size w2).alloc (Nat.le_refl _) (.cells #[.map (some mb)] 215)))
  have hT6 := hT5.below ((Below.refl _ _).alloc (Nat.le_refl _) (.cells #[Value.func (.func 163) #[] #[.pointer (some ⟨w.heap.size, 0, none⟩), .pointer (some ⟨w2.heap.size, 0, none⟩)]] 221))
  have htk : TkB _ f q c (w2.heap.size + 1) w.heap.size w2.heap.size mb := ⟨hk4, hk6, hk5⟩
  have hso := h.below hb3
  clear hT2 hT5 hk1 hk2 hk3 hk4 hk5 hk6 hb1 hb2 hs3
  obtain ⟨pk, ck, hvk, _⟩ := h.k.told
  obtain ⟨ph, ch, hvh, _⟩ := h.h.told
  obtain ⟨nk, hnk⟩ : ∃ n, n = r.yk.length := ⟨_, rfl⟩
  obtain ⟨nh, hnh⟩ : ∃ n, n = r.yh.length := ⟨_, rfl⟩
  rw [← hnk] at hvk
  rw [← hnh] at hvh
  have c3 := hso.blk.cell 3
  rw [show (ocells s r)[3]? = some (Value.slice pk nk ck) by rw [← hvk]; rfl] at c3
  have HMW := Lib.hid hmw
  have HS := Lib.hid hso
  have HT := Lib.hid hT6
  have HTK := Lib.hid htk
  have HB := Lib.hid hb3
  have HH := Lib.hid h
  have HNK := Lib.hid hnk
  have HNH := Lib.hid hnh
  have HVK := Lib.hid hvk
  have HVH := Lib.hid hvh
  have HN := Lib.hid (⟨hn, hn1, hn2⟩ : r.yb.length ≤ 1000000000 ∧ r.yk.length ≤ 1000000000 ∧ r.yh.length ≤ 1000000000)
  have HF := Lib.hid hf
  clear hmw hso hT6 htk hb3 h hnk hnh hvk hvh hn hn1 hn2 hf hgf hmb hw1
  go_enter Tryz.func135, Tryz.ntmps135
  go_wp2_with fail
  generalize (w2.alloc (.cells #[.map (some mb)] 215)).alloc (.cells #[Value.func (.func 163) #[] #[.pointer (some ⟨w.heap.size, 0, none⟩), .pointer (some ⟨w2.heap.size, 0, none⟩)]] 221) = w4 at *
  obtain ⟨gt, hgt⟩ : ∃ b, b = w2.heap.size + 1 := ⟨_, rfl⟩
  rw [← hgt] at HTK ⊢
  obtain ⟨gm, hgm⟩ : ∃ b, b = w2.heap.size := ⟨_, rfl⟩
  rw [← hgm] at HTK ⊢
  obtain ⟨gf2, hgf⟩ : ∃ b, b = w.heap.size := ⟨_, rfl⟩
  rw [← hgf] at HTK ⊢
  clear hgt hgm hgf c3
  -- the keeps
  have hrk := HS.out.k
  rw [HVK.out] at hrk
  have hI0 : IT f q c gt gf2 gm mb [] (r.yk.map (·.1)) w4 0 := ⟨[], HT.out, HTK.out, by intro d; simp⟩
  have hd1 := del_K mb (.pointer (some ⟨gt, 0, none⟩)) (takeK f) r.yk _ (prdK f q c gt gf2 gm mb [] r.yk HS.out.k.ok) w4 B _ hrk hI0 HN.out.2.1
  refine hd1.mono ?_
  rintro e w5 ⟨v5, rfl, hr5, hi5, hc5⟩
  have hc6 : Chg (fun k => r.vk.ownBlock = some k ∨ k = mb) w4 w5 := by rw [HVK.out]; exact hc5
  obtain ⟨hs6, hk6⟩ := HS.out.setK (X := fun k => k = mb) (fun k e => by rw [e]; exact HT.out.isMap) hc6 hr5
  have hb5 := blk_state HS.out hc6 (RowTy.of HS.out.k.own) (Or.inr (Or.inl rfl)) HT.out.isMap
  have c5 : w5.cell? ⟨g, 3, none⟩ = some r.vk := hb5.cell 3
  have f5 := hb5.free 3
  obtain ⟨q5, d5, rfl, _⟩ := hr5.told
  have hi6 : IT f q c gt gf2 gm mb [] (r.yk.map (·.1)) (w5.setCell ⟨g, 3, none⟩ (.slice q5 (r.yk.filter fun y => !takeK f y.1).length d5)) r.yk.length := hi5.stays (setCell_grown w5 g 3 _) (t := 47) (fun k e => by cases e; exact ⟨_, _, hb5⟩) (by decide)
  have hke : (r.yk.filter fun y => !takeK f y.1).map (·.1) = s.keeps.filter (fun x => !takeK f x) := by
    rw [← HS.out.ke, List.filter_map]; rfl
  have hkl : (r.yk.filter fun y => !takeK f y.1).length ≤ 1000000000 := Nat.le_trans (List.length_filter_le _ _) HN.out.2.1
  rw [hke] at hs6
  have c4 := hs6.blk.cell 4
  rw [show (ocells { s with keeps := s.keeps.filter (fun x => !takeK f x) } { r with vk := .slice q5 (r.yk.filter fun y => !takeK f y.1).length d5, yk := r.yk.filter fun y => !takeK f y.1 })[4]? = some (Value.slice ph nh ch) by rw [← HVH.out]; rfl] at c4
  have HS6 := Lib.hid hs6
  have HI6 := Lib.hid hi6
  have HK6 := Lib.hid hk6
  have HKL := Lib.hid hkl
  clear hrk hI0 hd1 hr5 hi5 hc5 hc6 hs6 hk6 hb5 hi6 hke hkl
  go_wp2_with fail
  clear c4 c5 f5
  generalize w5.setCell ⟨g, 3, none⟩ (.slice q5 (r.yk.filter fun y => !takeK f y.1).length d5) = w6 at *
  obtain ⟨S1, h1T, h1B, h1S⟩ := HI6.out
  have hrh := HS6.out.h
  rw [HVH.out] at hrh
  have hI1 : IT f q c gt gf2 gm mb S1 (r.yh.map fun y => (y.1.2.1, y.1.2.2)) w6 0 := ⟨S1, h1T, h1B, by intro d; simp⟩
  have hd2 := del_H mb (.pointer (some ⟨gt, 0, none⟩)) (takeH f) r.yh _ (prdH f q c gt gf2 gm mb S1 r.yh HS6.out.h.ok) w6 B _ hrh hI1 HN.out.2.2
  refine hd2.mono ?_
  rintro e w7 ⟨v7, rfl, hr7, hi7, hc7⟩
  have hc8 : Chg (fun k => r.vh.ownBlock = some k ∨ k = mb) w6 w7 := by rw [HVH.out]; exact hc7
  obtain ⟨hs8, hk8⟩ := HS6.out.setH (X := fun k => k = mb) (fun k e => by rw [e]; exact h1T.isMap) hc8 hr7
  have hb7 := blk_state HS6.out hc8 (RowTy.of HS6.out.h.own) (Or.inr (Or.inr (Or.inl rfl))) h1T.isMap
  have c7 : w7.cell? ⟨g, 4, none⟩ = some r.vh := hb7.cell 4
  have f7 := hb7.free 4
  obtain ⟨q7, d7, rfl, _⟩ := hr7.told
  have hi8 : IT f q c gt gf2 gm mb S1 (r.yh.map fun y => (y.1.2.1, y.1.2.2)) (w7.setCell ⟨g, 4, none⟩ (.slice q7 (r.yh.filter fun y => !takeH f y.1).length d7)) r.yh.length := hi7.stays (setCell_grown w7 g 4 _) (t := 47) (fun k e => by cases e; exact ⟨_, _, hb7⟩) (by decide)
  have hhe : (r.yh.filter fun y => !takeH f y.1).map (·.1) = s.hints.filter (fun x => !takeH f x) := by
    rw [← HS6.out.he, List.filter_map]; rfl
  have hhl : (r.yh.filter fun y => !takeH f y.1).length ≤ 1000000000 := Nat.le_trans (List.length_filter_le _ _) HN.out.2.2
  rw [hhe] at hs8
  obtain ⟨S2, h2T, h2B, h2S⟩ := hi8
  have cm : (w7.setCell ⟨g, 4, none⟩ (.slice q7 (r.yh.filter fun y => !takeH f y.1).length d7)).cell? ⟨gm, 0, none⟩ = some (.map (some mb)) := h2B.m.cell 0
  have hrl := release_any _ B g mb _ _ S2 hs8 h2T HN.out.1 HKL.out hhl
  have HRL := Lib.hid hrl
  have HK8 := Lib.hid hk8
  have H1S := Lib.hid h1S
  have H2S := Lib.hid h2S
  clear hrh hI1 hd2 hr7 hi7 hc7 hc8 hs8 hk8 hb7 hhe hhl h2T h2B h1S h2S hrl h1T h1B
  go_wp2_with fail
  refine HRL.out.mono ?_
  rintro e w9 ⟨rfl, r9, hs9, hk9⟩
  have HS9 := Lib.hid hs9
  have HK9 := Lib.hid hk9
  clear hs9 hk9 HRL
  go_wp2_with fail
  go_end0
  refine ⟨rfl, r9, ?_, ?_⟩
  · have hs := HS9.out
    have e : RelP { s with keeps := s.keeps.filter (fun x => !takeK f x), hints := s.hints.filter (fun x => !takeH f x) } S2 = s.less f := by
      have hS : ∀ d, decide (d ∈ S2) = needed (s.keeps.filter (takeK f)) (s.hints.filter (takeH f)) d := fun d => by
        have e1 : (r.yk.map (·.1)).take r.yk.length = s.keeps := by rw [List.take_of_length_le (by simp)]; exact HH.out.ke
        have e2 : (r.yh.map fun y => (y.1.2.1, y.1.2.2)).take r.yh.length = s.hints.map fun z => (z.2.1, z.2.2) := by
          rw [List.take_of_length_le (by simp), ← HH.out.he, List.map_map]; rfl
        have h1 := H1S.out d
        have h2 := H2S.out d
        rw [e1] at h1
        rw [e2, h1] at h2
        rw [Bool.eq_iff_iff]
        unfold needed takeK takeH
        simp only [decide_eq_true_eq, h2, Bool.or_eq_true, List.any_eq_true, List.mem_filter, List.not_mem_nil, false_or, List.mem_map]
        constructor
        · rintro (⟨p, h1, h2, h3⟩ | ⟨p, ⟨z, h1, rfl⟩, h2, h3⟩)
          · exact Or.inl ⟨p, ⟨h1, h2⟩, h3⟩
          · exact Or.inr ⟨z, ⟨h1, h2⟩, h3⟩
        · rintro (⟨p, ⟨h1, h2⟩, h3⟩ | ⟨z, ⟨h1, h2⟩, h3⟩)
          · exact Or.inl ⟨p, h1, h2, h3⟩
          · exact Or.inr ⟨_, ⟨z, h1, rfl⟩, h2, h3⟩
      have g1 : goesK f = takeK f := by funext x; unfold goesK takeK; simp [HF.out]
      have g2 : goesH f = takeH f := by funext x; unfold goesH takeH; simp [HF.out]
      unfold RelP Ste.less
      simp only [g1, g2, hS]
    rw [e] at hs; exact hs
  · have h1 := chg9_trans (chg9_trans HK6.out HK8.out) HK9.out
    have h2 : Chg (fun k => Own9 w B g k ∨ k = mb) w w4 := (Chg.refl _ w).grown (below_grown HB.out none) fun k hk => by cases hk
    have h3 := chg9_trans h2 h1
    exact h3.mono fun k hk hc => hc.imp id fun e => by have := HMW.out; omega
end
section
set_option linter.unusedSimpArgs false
set_option linter.unusedVariables false
open Go.RowKit Sha Fct
theorem execOp_makeOB (ρ : Operand → Value) (dst : Option Tmp) (parts : Array (Nat × Operand)) (ty : TypeId) (pos : String) (after : Array Edge) (guard : Option (Nat × Bool)) :
    execOp ρ { dst := dst, op := .build 93 parts, type := ty, pos := pos, after := after, guard := guard } = makeOp 93 (parts.map fun (i, x) => (i, ρ x)) := by unfold makeOp; rfl
theorem execOp_makeOK (ρ : Operand → Value) (dst : Option Tmp) (parts : Array (Nat × Operand)) (ty : TypeId) (pos : String) (after : Array Edge) (guard : Option (Nat × Bool)) :
    execOp ρ { dst := dst, op := .build 95 parts, type := ty, pos := pos, after := after, guard := guard } = makeOp 95 (parts.map fun (i, x) => (i, ρ x)) := by unfold makeOp; rfl
theorem execOp_makeOH (ρ : Operand → Value) (dst : Option Tmp) (parts : Array (Nat × Operand)) (ty : TypeId) (pos : String) (after : Array Edge) (guard : Option (Nat × Bool)) :
    execOp ρ { dst := dst, op := .build 97 parts, type := ty, pos := pos, after := after, guard := guard } = makeOp 97 (parts.map fun (i, x) => (i, ρ x)) := by unfold makeOp; rfl
theorem builtOB (D B : List Int) (h : D.length = 32) (q : Option Addr) (m c : Nat) (hm : m = B.length) : Tryz.prog.built 93 [(0, .agg (D.map v8).toArray), (1, .slice q m c)] = some (bcells (D, B) q c).toArray := by
  subst hm
  obtain ⟨a0, a1, a2, a3, a4, a5, a6, a7, a8, a9, a10, a11, a12, a13, a14, a15, a16, a17, a18, a19, a20, a21, a22, a23, a24, a25, a26, a27, a28, a29, a30, a31, rfl⟩ := len32 D h
  unfold bcells
  kernel_rfl
theorem makeOB (D B : List Int) (h : D.length = 32) (q : Option Addr) (m c : Nat) (hm : m = B.length) (w : World) : (makeOp 93 #[(0, .agg (D.map v8).toArray), (1, .slice q m c)]).run Tryz.prog w = .ok (.value (.agg (bcells (D, B) q c).toArray)) w := run_makeOp w (builtOB D B h q m c hm)
theorem builtOBi (D : List Int) (h : D.length = 32) : Tryz.prog.built 93 [(0, .agg (D.map v8).toArray)] = some (bcells (D, []) none 0).toArray := by
  obtain ⟨a0, a1, a2, a3, a4, a5, a6, a7, a8, a9, a10, a11, a12, a13, a14, a15, a16, a17, a18, a19, a20, a21, a22, a23, a24, a25, a26, a27, a28, a29, a30, a31, rfl⟩ := len32 D h
  unfold bcells
  kernel_rfl
theorem makeOBi (D : List Int) (h : D.length = 32) (w : World) : (makeOp 93 #[(0, .agg (D.map v8).toArray)]).run Tryz.prog w = .ok (.value (.agg (bcells (D, []) none 0).toArray)) w := run_makeOp w (builtOBi D h)
theorem builtOK (n : Int) (D : List Int) (h : D.length = 32) (q : Option Addr) (c : Nat) : Tryz.prog.built 95 [(0, .int .i64 n), (1, .agg (D.map v8).toArray)] = some (kcells (n, D) q c).toArray := by
  obtain ⟨a0, a1, a2, a3, a4, a5, a6, a7, a8, a9, a10, a11, a12, a13, a14, a15, a16, a17, a18, a19, a20, a21, a22, a23, a24, a25, a26, a27, a28, a29, a30, a31, rfl⟩ := len32 D h
  unfold kcells
  kernel_rfl
theorem makeOK (n : Int) (D : List Int) (h : D.length = 32) (q : Option Addr) (c : Nat) (w : World) : (makeOp 95 #[(0, .int .i64 n), (1, .agg (D.map v8).toArray)]).run Tryz.prog w = .ok (.value (.agg (kcells (n, D) q c).toArray)) w := run_makeOp w (builtOK n D h q c)
theorem builtOH (m n : Int) (D : List Int) (h : D.length = 32) (q : Option Addr) (c : Nat) : Tryz.prog.built 97 [(0, .int .i64 m), (1, .int .i64 n), (2, .agg (D.map v8).toArray)] = some (hcells (m, n, D) q c).toArray := by
  obtain ⟨a0, a1, a2, a3, a4, a5, a6, a7, a8, a9, a10, a11, a12, a13, a14, a15, a16, a17, a18, a19, a20, a21, a22, a23, a24, a25, a26, a27, a28, a29, a30, a31, rfl⟩ := len32 D h
  unfold hcells
  kernel_rfl
theorem makeOH (m n : Int) (D : List Int) (h : D.length = 32) (q : Option Addr) (c : Nat) (w : World) : (makeOp 97 #[(0, .int .i64 m), (1, .int .i64 n), (2, .agg (D.map v8).toArray)]).run Tryz.prog w = .ok (.value (.agg (hcells (m, n, D) q c).toArray)) w := run_makeOp w (builtOH m n D h q c)
theorem builtOV (s : Int) : Tryz.prog.built 62 [(0, .int .i64 s)] = some (vcells ⟨s, 0, 0, 0, 0, []⟩ none 0).toArray := by
  unfold vcells
  kernel_rfl
theorem makeOV (s : Int) (w : World) : (makeOp 62 #[(0, .int .i64 s)]).run Tryz.prog w = .ok (.value (.agg (vcells ⟨s, 0, 0, 0, 0, []⟩ none 0).toArray)) w := run_makeOp w (builtOV s)
theorem builtOD (s : Int) (B : List Int) (q : Option Addr) (m c : Nat) (hm : m = B.length) : Tryz.prog.built 73 [(0, .int .i64 s), (1, .slice q m c)] = some (dcells9 (s, B) q c).toArray := by
  subst hm
  unfold dcells9
  kernel_rfl
theorem makeOD (s : Int) (B : List Int) (q : Option Addr) (m c : Nat) (hm : m = B.length) (w : World) : (makeOp 73 #[(0, .int .i64 s), (1, .slice q m c)]).run Tryz.prog w = .ok (.value (.agg (dcells9 (s, B) q c).toArray)) w := run_makeOp w (builtOD s B q m c hm)
/-- A fact in a box of the call's own. -/
structure FBx9 (w0 : World) (f : Fac) (q : Option Addr) (c : Nat) (w1 : World) : Prop where
  b1 : (boxOp 28 (.agg (fcells f q c).toArray)).run Tryz.prog w0 = .ok (.value (.pointer (some ⟨w0.heap.size, 0, none⟩))) w1
  k1 : Blk w1 w0.heap.size (fcells f q c) 28
  below : Below w0.heap.size w0 w1
  size : w1.heap.size = w0.heap.size + 1
theorem fbx9 (w : World) (f : Fac) (q : Option Addr) (c : Nat) : ∃ w1, FBx9 w f q c w1 :=
  ⟨w.alloc (.cells (fcells f q c).toArray 28), run_boxOp w, Blk.new w _ _, (Below.refl w.heap.size w).alloc (Nat.le_refl _) _, World.size_alloc ..⟩
theorem FBx9.K {w w1 : World} {f : Fac} {q : Option Addr} {c : Nat} (h : FBx9 w f q c w1) : w1.cell? ⟨w.heap.size, 0, none⟩ = some (i64c f.K) := (h.k1.cell 0).trans (fcells_K f q c)
theorem FBx9.S {w w1 : World} {f : Fac} {q : Option Addr} {c : Nat} (h : FBx9 w f q c w1) : w1.cell? ⟨w.heap.size, 1, none⟩ = some (i64c f.S) := (h.k1.cell 1).trans (fcells_S f q c)
theorem fcells_mid (x : Fac) (q : Option Addr) (c : Nat) : fcells x q c = [i64c x.K, i64c x.S, i64c x.H, i64c x.N, i64c x.O] ++ x.D.map v8 ++ [.slice q x.B.length c] := by unfold fcells; simp
theorem fact_id {w : World} {g : Nat} {f : Fac} {q : Option Addr} {c : Nat} (h : Blk w g (fcells f q c) 28) (hd : f.D.length = 32) : (loadOp 25 (.pointer (some ⟨g, 5, none⟩))).run Tryz.prog w = .ok (.value (.agg (f.D.map v8).toArray)) w :=
  load_idr hd (range_mid (by rw [← fcells_mid]; exact h) rfl)
attribute [local go_sem ↓] execOp_boxFact execOp_loadId execOp_makeOH execOp_allocOH execOp_storeOH
set_option maxRecDepth 100000 in
set_option maxHeartbeats 1000000 in
theorem hintOf_any (f : Fac) (q : Option Addr) (c : Nat) (w : World) (h : sF.ok f) (hd : idOk f.D) :
    Calls Tryz.prog 155 #[.agg (fcells f q c).toArray] w fun e w' => e = .returned (.agg (hcells (f.H, f.S, f.D) none 0).toArray) ∧ Below w.heap.size w w' := by
  obtain ⟨w1, hb⟩ := fbx9 w f q c
  have bx := hb.b1
  have hok : sH.ok (f.H, f.S, f.D) := ⟨h.H, h.S, hd⟩
  have al := alloc_OH w1
  have st := storeN_OH w1 hok none 0
  have hk2 := hb.k1.old (.cells (hcells (0, 0, Fld.zero32) none 0).toArray 97)
  have hB := Lib.hid (hb.below.alloc (by rw [hb.size]; omega) (.cells (hcells (f.H, f.S, f.D) none 0).toArray 97))
  have hC := Lib.hid (show Blk (w1.alloc (.cells (hcells (f.H, f.S, f.D) none 0).toArray 97)) w1.heap.size (hcells (f.H, f.S, f.D) none 0) 97 from Blk.new w1 _ 97)
  have HS := Lib.hid (show (Tryz.prog.info? 97).map (fun i => i.size) = some (hcells (f.H, f.S, f.D) none 0).toArray.size by rw [isize_H, List.size_toArray]; exact congrArg some (sH.len none 0 hok).symm)
  rw [hb.size] at al st hC
  generalize w1.alloc (.cells (hcells (0, 0, Fld.zero32) none 0).toArray 97) = w2 at *
  generalize w1.alloc (.cells (hcells (f.H, f.S, f.D) none 0).toArray 97) = w3 at *
  have v0 : w2.cell? ⟨w.heap.size, 1, none⟩ = some (.int .i64 f.S) := (hk2.cell 1).trans (fcells_S f q c)
  have v1 : w2.cell? ⟨w.heap.size, 2, none⟩ = some (.int .i64 f.H) := (hk2.cell 2).trans (fcells_H f q c)
  have l1 := fact_id hk2 hd.1
  have mk := fun w => makeOH f.H f.S f.D hd.1 none 0 w
  clear hb h hd hok hk2
  go_enter Tryz.func155, Tryz.ntmps155
  go_wp2_with fail
  exact bodyPost_ret (v := .agg (hcells (f.H, f.S, f.D) none 0).toArray) (results_cell_row rfl _ _ _ _ _ _ _ rfl hC.out (Tryz.underlying97) rfl HS.out) rfl ⟨rfl, hB.out⟩
end
section
set_option linter.unusedSimpArgs false
set_option linter.unusedVariables false
open Go.RowKit Sha Fct
theorem append_step9 {P : Program} {ops : Array Oper} {o : Oper} {a : Act} {w : World} {K : Act → World → Prop} {Q : Exit → Act → World → Prop} {E : Prop}
    (hg : o.guard = none) (d x : Operand) (t1 t2 : TypeId) (hop : o.op = Op.call { callee := Callee.builtin Builtin.append, args := #[d, x], argTypes := #[t1, t2] })
    (v u : Value) (hd : a.eval d = v) (hx : a.eval x = u) {v' : Value} {w' : World} (hr : (Builtin.append_ #[t1, t2] o.type #[v, u]).run P w = .ok v' w') (hK : K (a.put o.dst v') w') :
    if Region.wanted o (yielded ops a.tmps) = true then Oper.wp P o a w K Q else E := by
  have hw : Region.wanted o (yielded ops a.tmps) = true := by simp [Region.wanted, hg]
  rw [if_pos hw]
  unfold Oper.wp execOp
  simp only [hop, resolve, invoke, builtin, Sem.run_bind, Sem.run_pure, Result.andThen_ok, List.map_toArray, List.map_cons, List.map_nil, hd, hx, hr]
  exact hK
theorem run_cutS_lh {P : Program} {t e : TypeId} {s : Nat} (hu : P.underlying t = some (.slice e)) (he : (P.info? e).map (fun i => i.size) = some s) (p : Option Addr) (len cap k m : Nat) (hk : k ≤ m) (hc : m ≤ cap) (w : World) :
    (Instr.sliceAt t (.slice p len cap) (some (.int .i64 k)) (some (.int .i64 m)) none).run P w = .ok (.slice (if cap = k then p else p.map (·.add (k * s))) (m - k) (cap - k)) w := by
  have hu' : P.underlying t = some (.slice (P.elem t)) := by rw [elem_ofS hu]; exact hu
  rw [run_sliceAt_slice w t _ _ _ _ hu', run_slice_lh w t p len cap hu' .i64 .i64 k m (by omega) (by omega) (by omega), elem_ofS hu, size_ofS he]
  simp [Result.andThen, sliced]
def DelH1 (w : World) (B g m : Nat) (xs : List Value) (e : Ending) (w' : World) : Prop := ∃ v', e = .returned v' ∧ w'.ownsRow B 97 34 v' m xs ∧ w.grownBy w' (some g)
attribute [local go_sem ↓] execOp_sliceH
set_option maxRecDepth 100000 in
set_option maxHeartbeats 4000000 in
theorem delete_H (w : World) (B g m cap i : Nat) (A R1 D rest : List Value) (hA : A.length = i * 34) (hR1 : R1.length = 34) (hD : D.length = (m - i) * 34) (hrest : rest.length = (cap - (m + 1)) * 34) (hi : i ≤ m) (hn : m ≤ 1000000000) (hnc : m + 1 ≤ cap) (hm : cap ≤ maxLen) (hB : B ≤ g)
    (hk : Blk w g (A ++ R1 ++ D ++ rest) 97) (hD1 : ∀ u ∈ D, u.oneCell' = true) :
    Calls Tryz.prog 177 #[.slice (some ⟨g, 0, none⟩) (m + 1) cap, .int .i64 i, .int .i64 ((i : Int) + 1)] w (DelH1 w B g m (A ++ D)) := by
  have hm2 := hm
  unfold maxLen at hm
  have hL : (A ++ R1 ++ D ++ rest).length = cap * 34 := by
    rw [List.length_append, List.length_append, List.length_append, hA, hR1, hD, hrest]
    have : (i * 34 + 34) + (m - i) * 34 + (cap - (m + 1)) * 34 = cap * 34 := by
      rw [← Nat.succ_mul, ← Nat.add_mul, ← Nat.add_mul]; congr 1; omega
    omega
  -- the tail comes one to the front
  obtain ⟨T, hT⟩ : ∃ T, T = (A ++ R1 ++ D ++ rest).drop (i * 34 + D.length) := ⟨_, rfl⟩
  have hTl : T.length = (cap - (m + 1) + 1) * 34 := by
    rw [hT, List.length_drop, hL, hD, ← Nat.add_mul, ← Nat.sub_mul]; congr 1; omega
  have hkd : w.drew.heap[g]? = some (.cells (A ++ R1 ++ D ++ rest).toArray 97 (0, 0)) := hk
  obtain ⟨i0, hi0, hz0, hz1, hz2⟩ := info_parts info_H
  obtain ⟨a0, ha0⟩ : ∃ a : Addr, a = if cap = i + 1 then ⟨g, 0, none⟩ else ⟨g, (i + 1) * 34, none⟩ := ⟨_, rfl⟩
  have haD : D ≠ [] → a0 = ⟨g, (i + 1) * 34, none⟩ := fun h => by
    rw [ha0, if_neg]
    rintro rfl
    apply h
    apply List.eq_nil_of_length_eq_zero
    rw [hD, show m - i = 0 by omega]
  have c1 : ∀ W, (sliceOp 43 (.slice (some ⟨g, 0, none⟩) (m + 1) cap) (some (.int .i64 ((i : Int) + 1))) none).run Tryz.prog W = .ok (.value (.slice (some a0) (m - i) (cap - (i + 1)))) W := fun W => by
    have h := cut_lH (some ⟨g, 0, none⟩) (m + 1) cap (i + 1) (by omega) hnc W
    rw [show m + 1 - (i + 1) = m - i by omega, show (if cap = i + 1 then some (⟨g, 0, none⟩ : Addr) else (some (⟨g, 0, none⟩ : Addr)).map (·.add ((i + 1) * 34))) = some a0 by
      rw [ha0]; split <;> simp [Addr.add_mid]] at h
    exact h
  have hcn : ∀ j u, D[j]? = some u → w.drew.cell? (a0.add j) = some u := fun j u hj => by
    rw [haD (by rintro rfl; simp at hj)]
    have h9 : Blk w.drew g ((A ++ R1) ++ D ++ rest) 97 := hk
    exact cells_in h9 (by rw [List.length_append, hA, hR1, ← Nat.succ_mul]) j u hj
  have hap : ∀ ty, (Builtin.append_ #[43, 43] ty #[.slice (some ⟨g, 0, none⟩) i cap, .slice (some a0) (m - i) (cap - (i + 1))]).run Tryz.prog w.drew =
      .ok (.slice (some ⟨g, 0, none⟩) m cap) (w.drew.setRow g (A ++ D ++ T).toArray) := fun ty => by
    have h := run_append_room (P := Tryz.prog) w.drew 43 ty 97 i0 Tryz.underlying43 hi0 g i cap _ hkd a0 (m - i) (cap - (i + 1)) D (by rw [hz1]; exact hD) hcn hD1 (by omega) (by rw [hz1, List.size_toArray, hL, hD, ← Nat.add_mul]; exact Nat.mul_le_mul_right _ (by omega))
    rw [hz1] at h
    rw [show i + (m - i) = m by omega] at h
    rw [show (A ++ R1 ++ D ++ rest).toArray.toList = A ++ R1 ++ D ++ rest from rfl, ← hT, show (A ++ R1 ++ D ++ rest).take (i * 34) = A by rw [List.append_assoc, List.append_assoc, List.take_left' hA]] at h
    exact h
  have k1 : Blk (w.drew.setRow g (A ++ D ++ T).toArray) g (A ++ D ++ T) 97 := Blk.row (w := w.drew) hk _
  have hg1 : w.grownBy (w.drew.setRow g (A ++ D ++ T).toArray) (some g) := by
    have h2 := below_setRow (B := g) (w0 := w) (w := w.drew) (Below.refl g w).drew (Nat.le_refl _) (A ++ D ++ T).toArray
    exact ⟨h2.os, h2.tape, h2.output, h2.size, fun k hk hn => setRow_other w.drew g k _ (fun e => hn (by rw [e]))⟩
  have hT34 : (T.take 34).length = 34 := by rw [List.length_take, hTl, Nat.succ_mul]; omega
  have hAD : (A ++ D).length = m * 34 := by rw [List.length_append, hA, hD, ← Nat.add_mul]; congr 1; omega
  have k1' : Blk (w.drew.setRow g (A ++ D ++ T).toArray) g (A ++ D ++ T.take 34 ++ T.drop 34) 97 := by rw [List.append_assoc (A ++ D), List.take_append_drop]; exact k1
  have hz := zsize_H
  obtain ⟨zz, hzz⟩ : ∃ zz : Value, zz = .agg (hcells (0, 0, Fld.zero32) none 0).toArray := ⟨_, rfl⟩
  have hzv := zeroV_H
  rw [← hzz] at hz hzv
  have hzo : ∀ v ∈ zz.cells.toList, v.oneCell' = true := by rw [hzz]; exact sH.one _ _ _
  have hZl : (Builtin.zeroCells zz.cells 1).toList.length = 34 := by rw [Array.length_toList, size_zeroCells, hz]
  have cl := fun cc => run_clearS (P := Tryz.prog) (w.drew.setRow g (A ++ D ++ T).toArray) Tryz.underlying43 hzv (by omega) hzo g (m * 34) 1 cc (by omega) (by rw [hz]; exact k1'.there _ _ (by rw [List.length_append, List.length_append, hAD, hT34]; omega))
  have k2 := Blk.setCells (Builtin.zeroCells zz.cells 1).toList (m * 34) _ _ _ _ k1' hAD (by rw [hT34, hZl])
  have hg2 := setCells_grown (w.drew.setRow g (A ++ D ++ T).toArray) g (m * 34) (Builtin.zeroCells zz.cells 1).toList
  have hlast : (A ++ D ++ ((Builtin.zeroCells zz.cells 1).toList ++ T.drop 34)).length = cap * 34 := by
    rw [List.length_append, hAD, List.length_append, hZl, List.length_drop, hTl, Nat.succ_mul, Nat.add_sub_cancel]
    have : m * 34 + 34 + (cap - (m + 1)) * 34 = cap * 34 := by rw [← Nat.succ_mul, ← Nat.add_mul]; congr 1; omega
    omega
  have HO := Lib.hid (own_ofBlk (B := B) (n := m) (s := 34) (cap := cap) (xs := A ++ D) (rest := (Builtin.zeroCells zz.cells 1).toList ++ T.drop 34) hB (by rw [← List.append_assoc]; exact k2) (by omega) hm2 hAD hlast)
  have HG := Lib.hid (grown_trans hg1 hg2)
  have c0 := cut_hH (some ⟨g, 0, none⟩) (m + 1) cap i (by omega)
  have c2 : ∀ W, (sliceOp 43 (.slice (some ⟨g, 0, none⟩) m cap) (some (.int .i64 (m : Int))) (some (.int .i64 ((m : Int) + 1)))).run Tryz.prog W = .ok (.value (.slice (some ⟨g, m * 34, none⟩) 1 (cap - m))) W := fun W => by
    have h := run_sliceOp (run_cutS_lh Tryz.underlying43 isize_H (some ⟨g, 0, none⟩) m cap m (m + 1) (by omega) hnc W)
    rw [if_neg (by omega), Nat.add_sub_cancel_left] at h
    simpa [Addr.add_mid] using h
  have hne : ((i : Int) == (i : Int) + 1) = false := by rw [beq_eq_false_iff_ne]; omega
  clear hlast k2 k1 k1' hg1 hg2 hZl hzo hz hzv hzz hAD hT34 hTl hT hcn haD ha0 hkd hL hk hD1 hrest hD hR1 hA hz0 hz1 hz2 hi0
  generalize w.drew.setRow g (A ++ D ++ T).toArray = w1 at *
  generalize w1.setCells g (m * 34) (Builtin.zeroCells zz.cells 1).toList = w2 at *
  generalize m - i = l1 at *
  generalize cap - (i + 1) = l2 at *
  generalize hl3 : cap - m = l3 at *
  go_enter Tryz.func177, Tryz.ntmps177
  go_wp2_with fail
  go_region_law (refine append_step9 rfl (.tmp 22) (.tmp 25) 43 43 rfl _ _ (by simp [Act.eval, Act.put]) (by simp [Act.eval, Act.put]) (hap _) ?_)
  all_goals
    go_wp2_with (at_builtin; refine clear_law _ rfl (.tmp 31) 43 rfl _ rfl (cl _ _) ?_)
    go_ret
    exact ⟨_, rfl, HO.out, HG.out⟩
end
end Go.Proofs.YtokpabkcaofahaaGreat
