/-
  The wire package's items: those of a note, in a row of the call's own (written by mknwe15.py).
  The reference of the wire package: put, items (written by mkrwf15.py, mkrwg15.py).
-/
import Derived.Test.YtbogjfmefkhglaaGreatP7
import Derived.Deep.DeepCutAuto
import Derived.Test.YtbogjfmefkhglaaGreatP6
namespace Go.Proofs.YtbogjfmefkhglaaGreat
section
set_option linter.unusedSimpArgs false
set_option linter.unusedVariables false
open Go.RowKit Sha Nte
open Fld (Itm)
theorem execOp_loadForm15 (ρ : Operand → Value) (dst : Option Tmp) (x : Operand) (ty : TypeId) (pos : String) (after : Array Edge) (guard : Option (Nat × Bool)) :
    execOp ρ { dst := dst, op := .load 63 x, type := ty, pos := pos, after := after, guard := guard } = loadOp 63 (ρ x) := by unfold loadOp; rfl
theorem form_size15 : (Tryz.prog.info? 63).map (fun i => i.size) = some 3 := by kernel_rfl
abbrev fcs (a b c : ByteArray) : List Value := [.string a, .string b, .string c]
theorem load_wform {w : World} {g : Nat} {a b c : ByteArray} (h : Blk w g (fcs a b c) 63) : (loadOp 63 (.pointer (some ⟨g, 0, none⟩))).run Tryz.prog w = .ok (.value (.agg #[.string a, .string b, .string c])) w :=
  run_loadRow (cs := #[.string a, .string b, .string c]) h Tryz.underlying63 rfl (by rw [form_size15]; rfl)
/-- Items in memory: a slice of them, and where each one's bytes lie. -/
structure LeftAt (w : World) (p : Option Addr) (n c : Nat) (ys : List Hdr) : Prop where
  len : n = ys.length
  le : n ≤ c
  max : c ≤ 9223372036854775807
  nil : p = none → c = 0
  at_ : At w p (ys.flatMap cellsI)
  good : ∀ y ∈ ys, GoodI w y.1 y.2.1 y.2.2
theorem LeftAt.below {w w' : World} {p : Option Addr} {n c : Nat} {ys : List Hdr} (h : LeftAt w p n c ys) (hb : Below w.heap.size w w') : LeftAt w' p n c ys := ⟨h.len, h.le, h.max, h.nil, h.at_.below hb, fun y hy => (h.good y hy).below hb⟩
def headsH (x : Not) : List Hdr := [x.K, x.F, x.T].map nNh
def itemsH15 (x : Not) (h : NHd) : List Hdr := headsH x ++ (letters x.K).flatMap (hdrs x h)
theorem itemsH15_map (x : Not) (h : NHd) : (itemsH15 x h).map (·.1) = items x := by
  unfold itemsH15 headsH items
  rw [List.map_append, List.map_flatMap, List.map_map]
  simp only [hdrs_map]
  rfl
theorem hdrs_len {x : Not} (h : NHd) (hx : Few x) {c : Int} (hc : isT c) : (hdrs x h c).length ≤ 301 := by
  have h1 := hx.I
  have h2 := hx.W
  have hl : (hdrs x h c).length = (its x c).length := by rw [← hdrs_map x h c, List.length_map]
  have hw : ∀ l : List Mb, (l.flatMap w3).length = 3 * l.length := by intro l; induction l with | nil => rfl | cons a l ih => rw [List.flatMap_cons, List.length_append, ih]; simp [w3]; omega
  have hi : ∀ l : List (List Int), (l.flatMap (fun d => [iD d])).length = l.length := by intro l; induction l with | nil => rfl | cons a l ih => rw [List.flatMap_cons, List.length_append, ih]; simp; omega
  rw [hl]
  have e1 : (its x 105).length = 1 + x.I.length := by rw [show its x 105 = iN x.I.length :: (x.I.flatMap fun d => [iD d]) from rfl, List.length_cons, hi]; omega
  have e2 : (its x 119).length = 1 + 3 * x.W.length := by rw [show its x 119 = iN x.W.length :: x.W.flatMap w3 from rfl, List.length_cons, hw]; omega
  rcases hc with rfl | rfl | rfl | rfl | rfl | rfl | rfl | rfl | rfl | rfl
  · show 3 ≤ 301; omega
  · show 2 ≤ 301; omega
  · show 2 ≤ 301; omega
  · show 1 ≤ 301; omega
  · show 1 ≤ 301; omega
  · omega
  · omega
  · show 1 ≤ 301; omega
  · show 1 ≤ 301; omega
  · show 1 ≤ 301; omega
theorem flat_len {x : Not} (h : NHd) (hx : Few x) : ∀ (l : List Int), (∀ c ∈ l, isT c) → (l.flatMap (hdrs x h)).length ≤ 301 * l.length := by
  intro l
  induction l with
  | nil => intro _; simp
  | cons c l ih =>
    intro hl
    have h1 := ih (fun c hc => hl c (List.mem_cons_of_mem _ hc))
    have h2 := hdrs_len h hx (hl c (List.mem_cons_self ..))
    rw [List.flatMap_cons, List.length_append, List.length_cons]
    omega
theorem heads_good {w : World} {x : Not} (hx : x.ok) : ∀ y ∈ headsH x, GoodI w y.1 y.2.1 y.2.2 := by
  intro y hy
  unfold headsH at hy
  simp at hy
  rcases hy with rfl | rfl | rfl
  · exact niN_good w hx.K
  · exact niN_good w hx.F
  · exact niN_good w hx.T
theorem itemsH15_good {w : World} {x : Not} {h : NHd} (g : NGood w x h) : ∀ y ∈ itemsH15 x h, GoodI w y.1 y.2.1 y.2.2 := by
  intro y hy
  unfold itemsH15 at hy
  rcases List.mem_append.1 hy with hy | hy
  · exact heads_good g.ok y hy
  · obtain ⟨c, hc, hy⟩ := List.mem_flatMap.1 hy
    exact hdrs_good g (letters_isT _ c hc) y hy
/-- A row of items made anew, with room. -/
theorem mk_items (w : World) (B n : Nat) (hB : B ≤ w.heap.size) (hn : n ≤ 4000) : ∃ w', (Instr.makeSlice 67 (.int .i64 0) (.int .i64 n)).run Tryz.prog w = .ok (.slice (some ⟨w.heap.size, 0, none⟩) 0 n) w' ∧ w'.ownsRow B 118 34 (.slice (some ⟨w.heap.size, 0, none⟩) 0 n) 0 [] ∧ Below w.heap.size w w' := by
  obtain ⟨i0, hi, hz0, hz1, hz2⟩ := info_parts item_all3
  obtain ⟨w3, hmk, hown, hgr⟩ := run_make_own (P := Tryz.prog) (w := w) B 67 118 i0 _ 34 Tryz.underlying67 hi hz0 hz1 .i64 .i64 n (by rw [hz2]; omega) (by unfold maxLen; omega) hB
  exact ⟨w3, hmk, hown, (Below.refl _ _).grown hgr (Nat.le_refl _) (fun k e => by cases e)⟩
theorem room_wrap (s n m r : Nat) (h : s ≤ 33) (h1 : n ≤ 100) (h2 : m ≤ 100) (hr : r = s + n + 3 * m) : wrap64 (wrap64 ((s : Int) + (n : Int)) + 3 * (m : Int)) = (r : Int) := by unfold wrap64; omega
def PItems15 (ys : List Hdr) (w : World) (e : Ending) (w' : World) : Prop := ∃ p n cp, e = .returned (.slice p n cp) ∧ LeftAt w' p n cp ys ∧ Below w.heap.size w w'
section
attribute [local go_sem ↓] execOp_boxNote execOp_boxForm15 execOp_loadForm15 execOp_loadNote
set_option maxRecDepth 100000 in
set_option maxHeartbeats 4000000 in
theorem witems_any (x : Not) (h : NHd) (w : World) (hg : NGood w x h) (hf : Few x) :
    Calls Tryz.prog 50 #[wform x.K, .agg (ncells x h).toArray] w (PItems15 (itemsH15 x h) w) := by
  have hsz := kHas_size x.K
  have hnm := kHas_nums x.K
  have HIS := Lib.hid (letters_isT x.K)
  have H128 := Lib.hid (letters_128 x.K)
  have SH := Lib.hid (fun w => wshape_any x.K w)
  have zs := shS_size x.K
  have HLN := Lib.hid (letters_len x.K)
  unfold itemsH15
  show Calls Tryz.prog 50 #[.agg #[.string (kHas x.K), .string (kYes x.K), .string (kNo x.K)], .agg (ncells x h).toArray] w _
  obtain ⟨k, hk⟩ : ∃ k, k = x.K := ⟨_, rfl⟩
  rw [← hk] at hsz hnm HIS H128 SH zs HLN ⊢
  have SH := Lib.hid (show ∀ w, Calls Tryz.prog 42 #[.agg #[.string (kHas k), .string (kYes k), .string (kNo k)]] w fun e w' => e = .returned (.string (shS k)) ∧ Below w.heap.size w w' from SH.out)
  generalize kHas k = t at *
  generalize kYes k = t1 at *
  generalize kNo k = t2 at *
  generalize shS k = sh at *
  generalize letters k = l at *
  have HL := Lib.hid (show l.length = t.size by rw [← hnm, nums_length])
  have HNM := Lib.hid hnm
  clear hnm
  have bx1 := run_boxOp (P := Tryz.prog) (t := 63) (cs := #[.string t, .string t1, .string t2]) w
  have hb1 := (Below.refl w.heap.size w).alloc (Nat.le_refl _) (.cells #[.string t, .string t1, .string t2] 63)
  have hk1 : Blk (w.alloc (.cells #[.string t, .string t1, .string t2] 63)) w.heap.size (fcs t t1 t2) 63 := Blk.new w #[.string t, .string t1, .string t2] 63
  obtain ⟨gf, hgf⟩ : ∃ gf, gf = w.heap.size := ⟨_, rfl⟩
  have HGF := Lib.hid hgf
  obtain ⟨w1, hw1⟩ : ∃ v, v = w.alloc (.cells #[.string t, .string t1, .string t2] 63) := ⟨_, rfl⟩
  rw [← hw1] at bx1 hb1 hk1
  rw [← hgf] at bx1 hk1
  obtain ⟨g, w2, r2, hg2, hl2, K2, B2⟩ := box_note w1 x h
  have hb2 := hb1.trans (B2.mono hb1.size)
  have HF2 := Lib.hid (hk1.below B2 hk1.lt)
  have HX := Lib.hid hg
  have HFW := Lib.hid hf
  have i1 := hf.I
  have i2 := hf.W
  have c46 : w2.cell? ⟨g, 46, none⟩ = some (.slice h.r x.I.length h.d) := nblk_cells K2.range 46 (ncells_I hg.ok.len h)
  have c47 : w2.cell? ⟨g, 47, none⟩ = some (.slice h.s x.W.length h.e) := nblk_cells K2.range 47 (ncells_W hg.ok.len h)
  have HK2 := Lib.hid K2
  have HB2 := Lib.hid hb2
  obtain ⟨nI, hnI⟩ : ∃ n, n = x.I.length := ⟨_, rfl⟩
  obtain ⟨nW, hnW⟩ : ∃ n, n = x.W.length := ⟨_, rfl⟩
  rw [← hnI] at c46 i1
  rw [← hnW] at c47 i2
  obtain ⟨sz, hsz2⟩ : ∃ n, n = sh.size := ⟨_, rfl⟩
  rw [← hsz2] at zs
  have HSZ := Lib.hid hsz2
  clear hsz2
  obtain ⟨room, hroom⟩ : ∃ n, n = sz + nI + 3 * nW := ⟨_, rfl⟩
  have hroom4 : room ≤ 4000 := by omega
  have AR := Lib.hid (room_wrap sz nI nW room zs i1 i2 hroom)
  clear hw1 hb1 hk1 hg2 hl2 K2 B2 hb2 hg hf hnI hnW hroom hgf
  go_enter Tryz.func50, Tryz.ntmps50
  go_wp2_with fail
  -- room
  obtain ⟨I, W, hC⟩ := cls_of w2
  have hne : Nonempty I := hC.ne
  have f1 := fun i => load_wform (HF2.out.below (hC.back i) HF2.out.lt)
  have s1 := Lib.hid (hC.call (P := Tryz.prog) (f := 42) (args := #[.agg #[.string t, .string t1, .string t2]]) (v := .string sh) (fun w' _ => SH.out w'))
  have d46 := hC.cell c46
  have d47 := hC.cell c47
  have HC := Lib.hid hC
  clear hC
  refine wp_region_cls W (by kernel_rfl) (by kernel_rfl) HC.out.one ?_
  repeat go_big_quiet_step ((go_at_call 42; exact s1.out _))
  refine wpQuiet_nil ?_
  rintro _ ⟨mm, rfl⟩
  have B3 := Lib.hid (HB2.out.trans ((HC.out.back mm).mono HB2.out.size))
  have K3 := Lib.hid (HK2.out.below (HC.out.back mm) HK2.out.lt)
  have F3 := Lib.hid (HF2.out.below (HC.out.back mm) HF2.out.lt)
  clear f1 s1 d46 d47 HC c46 c47
  generalize W mm = w3 at *
  rw [← HSZ.out, AR.out]
  have HF := Lib.hid (show ∀ n ∈ [x.K, x.F, x.T], fit n from by
    intro n hn
    simp at hn
    rcases hn with rfl | rfl | rfl
    · exact HX.out.ok.K
    · exact HX.out.ok.F
    · exact HX.out.ok.T)
  have HS0 := fun (w' : World) (hb : Below w3.heap.size w3 w') => (show w'.cell? ⟨g, 0, none⟩ = some (nic x.K) ∧ w'.cell? ⟨g, 1, none⟩ = some (nic x.F) ∧ w'.cell? ⟨g, 2, none⟩ = some (nic x.T) from ⟨nblk_cells (K3.out.below hb K3.out.lt).range 0 rfl, nblk_cells (K3.out.below hb K3.out.lt).range 1 rfl, nblk_cells (K3.out.below hb K3.out.lt).range 2 rfl⟩)
  have HS := Lib.hid HS0
  clear HS0
  go_upto_region 2 with (fail)
  go_cut [6] from 21 to 30 (fun v wx => Hid (wx.ownsRow w.heap.size 118 34 v 3 ((headsH x).flatMap cellsI)) ∧ Hid (Blk wx g (ncells x h) 32) ∧ Hid (Blk wx gf (fcs t t1 t2) 63) ∧ Hid (Below w.heap.size w wx))
  case first =>
    refine wp_region_held_drew (S := (fun w' => w'.cell? ⟨g, 0, none⟩ = some (nic x.K) ∧ w'.cell? ⟨g, 1, none⟩ = some (nic x.F) ∧ w'.cell? ⟨g, 2, none⟩ = some (nic x.T))) (by kernel_rfl) (HS.out _ (Below.refl _ w3).drew) (fun hHeld => ?_)
    have BD := Lib.hid (Below.refl w3.heap.size w3).drew
    have B4 := Lib.hid (B3.out.trans (BD.out.mono B3.out.size))
    generalize w3.drew = w4 at *
    refine take_at 0 (by kernel_rfl) (v := ?v1) (by kernel_rfl) (by kernel_rfl) (by kernel_rfl) (fun _ _ _ h => h) (by rfl) ?y1 (by assumption) ?r1
    case y1 => (intro w hSw; (try dsimp only at hSw); simp only [List.getElem_cons_succ, List.getElem_cons_zero]; go_simp; (try with_reducible rfl))
    try simp only [List.getElem_cons_succ, List.getElem_cons_zero, Act.put, List.setIfInBounds_toArray, List.set_cons_zero, List.set_cons_succ]
    refine take_at 2 (by kernel_rfl) (v := ?v2) (by kernel_rfl) (by kernel_rfl) (by kernel_rfl) (fun _ _ _ h => h) (by rfl) ?y2 (by assumption) ?r2
    case y2 => (intro w hSw; (try dsimp only at hSw); simp only [List.getElem_cons_succ, List.getElem_cons_zero]; go_simp; (try with_reducible rfl))
    try simp only [List.getElem_cons_succ, List.getElem_cons_zero, Act.put, List.setIfInBounds_toArray, List.set_cons_zero, List.set_cons_succ]
    refine take_at 4 (by kernel_rfl) (v := ?v3) (by kernel_rfl) (by kernel_rfl) (by kernel_rfl) (fun _ _ _ h => h) (by rfl) ?y3 (by assumption) ?r3
    case y3 => (intro w hSw; (try dsimp only at hSw); simp only [List.getElem_cons_succ, List.getElem_cons_zero]; go_simp; (try with_reducible rfl))
    try simp only [List.getElem_cons_succ, List.getElem_cons_zero, Act.put, List.setIfInBounds_toArray, List.set_cons_zero, List.set_cons_succ]
    refine take_at 6 (by kernel_rfl) (v := ?v4) (by kernel_rfl) (by kernel_rfl) (by kernel_rfl) (fun _ _ _ h => h) (by rfl) ?y4 (by assumption) ?r4
    case y4 => (intro w hSw; (try dsimp only at hSw); simp only [List.getElem_cons_succ, List.getElem_cons_zero]; go_simp; (try with_reducible rfl))
    try simp only [List.getElem_cons_succ, List.getElem_cons_zero, Act.put, List.setIfInBounds_toArray, List.set_cons_zero, List.set_cons_succ]
    refine take_at 3 (by kernel_rfl) (v := ?v5) (by kernel_rfl) (by kernel_rfl) (by kernel_rfl) (fun _ _ _ h => h) (by rfl) ?y5 (by assumption) ?r5
    case y5 => (intro w hSw; obtain ⟨h1, h2, h3⟩ := hSw; simp only [List.getElem_cons_succ, List.getElem_cons_zero]; go_simp; (try with_reducible rfl))
    try simp only [List.getElem_cons_succ, List.getElem_cons_zero, Act.put, List.setIfInBounds_toArray, List.set_cons_zero, List.set_cons_succ]
    refine take_at 5 (by kernel_rfl) (v := ?v6) (by kernel_rfl) (by kernel_rfl) (by kernel_rfl) (fun _ _ _ h => h) (by rfl) ?y6 (by assumption) ?r6
    case y6 => (intro w hSw; obtain ⟨h1, h2, h3⟩ := hSw; simp only [List.getElem_cons_succ, List.getElem_cons_zero]; go_simp; (try with_reducible rfl))
    try simp only [List.getElem_cons_succ, List.getElem_cons_zero, Act.put, List.setIfInBounds_toArray, List.set_cons_zero, List.set_cons_succ]
    refine take_at 7 (by kernel_rfl) (v := ?v7) (by kernel_rfl) (by kernel_rfl) (by kernel_rfl) (fun _ _ _ h => h) (by rfl) ?y7 (by assumption) ?r7
    case y7 => (intro w hSw; obtain ⟨h1, h2, h3⟩ := hSw; simp only [List.getElem_cons_succ, List.getElem_cons_zero]; go_simp; (try with_reducible rfl))
    try simp only [List.getElem_cons_succ, List.getElem_cons_zero, Act.put, List.setIfInBounds_toArray, List.set_cons_zero, List.set_cons_succ]
    refine ready2_at 1 8 (by kernel_rfl) (by kernel_rfl) (by kernel_rfl) ?_ ?_
    · intro K hK
      simp only [List.getElem_cons_succ, List.getElem_cons_zero]
      go_simp
      obtain ⟨w5, hmk, ho5, hb5⟩ := mk_items w4 w.heap.size room B4.out.size hroom4
      simp only [hmk, Result.andThen_ok, Sem.run_pure, Sem.run_bind]
      refine hK.out _ _ (HS.out _ (BD.out.trans (hb5.mono BD.out.size))) (fun hHeld => ?_)
      clear hK K
      try simp only [List.getElem_cons_succ, List.getElem_cons_zero, Act.put, List.setIfInBounds_toArray, List.set_cons_zero, List.set_cons_succ]
      refine ready_at 8 (by kernel_rfl) (by kernel_rfl) (fun K hK => ?_)
      simp only [List.getElem_cons_succ, List.getElem_cons_zero]
      go_simp
      have HO := Lib.hid (ho5.alloc (.cells ([x.K, x.F, x.T].map nic).toArray 3))
      have HI := Lib.hid (nblk_int w5 [x.K, x.F, x.T])
      have BV := Lib.hid ((BD.out.trans (hb5.mono BD.out.size)).alloc (BD.out.trans (hb5.mono BD.out.size)).size (.cells ([x.K, x.F, x.T].map nic).toArray 3))
      have HBV := Lib.hid (B3.out.trans (BV.out.mono B3.out.size))
      have HKV := Lib.hid (K3.out.below BV.out K3.out.lt)
      have HFV := Lib.hid (F3.out.below BV.out F3.out.lt)
      refine hK.out _ _ (HS.out _ BV.out) (fun hHeld => ?_)
      clear hK K
      try simp only [List.getElem_cons_succ, List.getElem_cons_zero, Act.put, List.setIfInBounds_toArray, List.set_cons_zero, List.set_cons_succ]
      refine ready_at 9 (by kernel_rfl) (by kernel_rfl) (fun K hK => ?_)
      simp only [List.getElem_cons_succ, List.getElem_cons_zero]
      go_simp
      go_at_call 81
      refine (wnums_any w.heap.size [] _ [x.K, x.F, x.T] 3 rfl _ _ HF.out HO.out HI.out HBV.out.size (by simp) (by omega)).mono ?_
      rintro e w7 ⟨v7, rfl, ho7, hs7⟩
      have HO7 := Lib.hid ho7
      have HS7 := Lib.hid hs7
      have HB7 := Lib.hid (hs7.bel _ HBV.out)
      have HK7 := Lib.hid (hs7.blk HKV.out note_ne_item)
      have HF7 := Lib.hid (hs7.blk HFV.out form_ne_item)
      clear ho7 hs7 HO HI
      refine hK.out _ _ ⟨nblk_cells HK7.out.range 0 rfl, nblk_cells HK7.out.range 1 rfl, nblk_cells HK7.out.range 2 rfl⟩ (fun hHeld => ?_)
      clear hK K
      try simp only [List.getElem_cons_succ, List.getElem_cons_zero, Act.put, List.setIfInBounds_toArray, List.set_cons_zero, List.set_cons_succ]
      refine take_at 10 (by kernel_rfl) (v := ?v8) (by kernel_rfl) (by kernel_rfl) (by kernel_rfl) (fun _ _ _ h => h) (by rfl) ?y8 (by assumption) ?r8
      case y8 => (intro w hSw; (try dsimp only at hSw); simp only [List.getElem_cons_succ, List.getElem_cons_zero]; go_simp; (try with_reducible rfl))
      try simp only [List.getElem_cons_succ, List.getElem_cons_zero, Act.put, List.setIfInBounds_toArray, List.set_cons_zero, List.set_cons_succ]
      refine wpAnyH_done (by kernel_rfl) ?_ _
      go_wp2_with fail
      go_meet
      case rel => exact ⟨Lib.hid (by have := HO7.out; simpa [headsH] using this), HK7, HF7, HB7⟩
    · intro K hK
      simp only [List.getElem_cons_succ, List.getElem_cons_zero]
      go_simp
      have BA := Lib.hid (BD.out.alloc BD.out.size (.cells ([x.K, x.F, x.T].map nic).toArray 3))
      refine hK.out _ _ (HS.out _ BA.out) (fun hHeld => ?_)
      clear hK K
      try simp only [List.getElem_cons_succ, List.getElem_cons_zero, Act.put, List.setIfInBounds_toArray, List.set_cons_zero, List.set_cons_succ]
      refine ready_at 1 (by kernel_rfl) (by kernel_rfl) (fun K hK => ?_)
      simp only [List.getElem_cons_succ, List.getElem_cons_zero]
      go_simp
      obtain ⟨w6, hmk, ho6, hb6⟩ := mk_items (w4.alloc (.cells #[nic x.K, nic x.F, nic x.T] 3)) w.heap.size room (by have := B4.out.size; simp; omega) hroom4
      rw [World.size_alloc] at hmk ho6
      simp only [hmk, Result.andThen_ok, Sem.run_pure, Sem.run_bind]
      have HO := Lib.hid ho6
      have HI := Lib.hid ((nblk_int w4 [x.K, x.F, x.T]).below hb6 (nblk_int w4 [x.K, x.F, x.T]).lt)
      have BV := Lib.hid ((BD.out.alloc BD.out.size (.cells ([x.K, x.F, x.T].map nic).toArray 3)).trans (hb6.mono (BD.out.alloc BD.out.size (.cells ([x.K, x.F, x.T].map nic).toArray 3)).size))
      have HBV := Lib.hid (B3.out.trans (BV.out.mono B3.out.size))
      have HKV := Lib.hid (K3.out.below BV.out K3.out.lt)
      have HFV := Lib.hid (F3.out.below BV.out F3.out.lt)
      refine hK.out _ _ (HS.out _ BV.out) (fun hHeld => ?_)
      clear hK K
      try simp only [List.getElem_cons_succ, List.getElem_cons_zero, Act.put, List.setIfInBounds_toArray, List.set_cons_zero, List.set_cons_succ]
      refine ready_at 9 (by kernel_rfl) (by kernel_rfl) (fun K hK => ?_)
      simp only [List.getElem_cons_succ, List.getElem_cons_zero]
      go_simp
      go_at_call 81
      refine (wnums_any w.heap.size [] _ [x.K, x.F, x.T] 3 rfl _ _ HF.out HO.out HI.out HBV.out.size (by simp) (by omega)).mono ?_
      rintro e w7 ⟨v7, rfl, ho7, hs7⟩
      have HO7 := Lib.hid ho7
      have HS7 := Lib.hid hs7
      have HB7 := Lib.hid (hs7.bel _ HBV.out)
      have HK7 := Lib.hid (hs7.blk HKV.out note_ne_item)
      have HF7 := Lib.hid (hs7.blk HFV.out form_ne_item)
      clear ho7 hs7 HO HI
      refine hK.out _ _ ⟨nblk_cells HK7.out.range 0 rfl, nblk_cells HK7.out.range 1 rfl, nblk_cells HK7.out.range 2 rfl⟩ (fun hHeld => ?_)
      clear hK K
      try simp only [List.getElem_cons_succ, List.getElem_cons_zero, Act.put, List.setIfInBounds_toArray, List.set_cons_zero, List.set_cons_succ]
      refine take_at 10 (by kernel_rfl) (v := ?v9) (by kernel_rfl) (by kernel_rfl) (by kernel_rfl) (fun _ _ _ h => h) (by rfl) ?y9 (by assumption) ?r9
      case y9 => (intro w hSw; (try dsimp only at hSw); simp only [List.getElem_cons_succ, List.getElem_cons_zero]; go_simp; (try with_reducible rfl))
      try simp only [List.getElem_cons_succ, List.getElem_cons_zero, Act.put, List.setIfInBounds_toArray, List.set_cons_zero, List.set_cons_succ]
      refine wpAnyH_done (by kernel_rfl) ?_ _
      go_wp2_with fail
      go_meet
      case rel => exact ⟨Lib.hid (by have := HO7.out; simpa [headsH] using this), HK7, HF7, HB7⟩
  case rest =>
    obtain ⟨HO7, HK7, HF7, HB7⟩ := hcut
    clear HS K3 F3 B3 HK2 HF2 HB2 bx1 r2
    obtain ⟨w7, hw7⟩ : ∃ w7, w7 = wc := ⟨_, rfl⟩
    have c1 : w7.cell? ⟨gf, 0, none⟩ = some (.string t) := by rw [hw7]; exact HF7.out.cell 0
    rw [← hw7] at HO7 HK7 HF7 HB7 ⊢
    clear hw7
    go_wp2_with fail
    have HI0 := Lib.hid (World.iter_heap w7 t 0)
    have hal : (w7.iter t 0) = w7.alloc (.stringIter t 0) := rfl
    have K8 := Lib.hid (show Blk (w7.iter t 0) g (ncells x h) 32 from by rw [hal]; exact HK7.out.old _)
    have HO8 := Lib.hid (show (w7.iter t 0).ownsRow w.heap.size 118 34 u6 3 ((headsH x).flatMap cellsI) from by rw [hal]; exact HO7.out.alloc _)
    have HB8 := Lib.hid (show Below w.heap.size w (w7.iter t 0) from by rw [hal]; exact HB7.out.alloc HB7.out.size _)
    obtain ⟨gi, hgi⟩ : ∃ gi, gi = w7.heap.size := ⟨_, rfl⟩
    rw [← hgi] at HI0 ⊢
    have HG := Lib.hid (show w.heap.size ≤ gi by rw [hgi]; exact HB7.out.size)
    clear hal hgi HB7 HO7 HK7 HF7 c1
    generalize w7.iter t 0 = w8 at *
    go_loopg [6] t.size (fun gh vv wr => ∃ (j : Nat) (v : Value), v = vv ∧ j ≤ t.size ∧ gh = t.size - j ∧ Hid (wr.heap[gi]? = some (.stringIter t j)) ∧ Hid (Blk wr g (ncells x h) 32) ∧ Hid (wr.ownsRow w.heap.size 118 34 v (headsH x ++ (l.take j).flatMap (hdrs x h)).length ((headsH x ++ (l.take j).flatMap (hdrs x h)).flatMap cellsI)) ∧ Hid (Below w.heap.size w wr))
    case atStart => exact ⟨0, _, rfl, by omega, rfl, HI0, K8, Lib.hid (by simpa [headsH] using HO8.out), HB8⟩
    case round =>
      obtain ⟨j, v, rfl, hj, rfl, HI, K, HO, HB⟩ := hrel
      clear HI0 K8 HO8 HB8
      by_cases hp : j < t.size
      · obtain ⟨ch, hn, hch⟩ := wire_next t l HNM.out j hp H128.out
        have hnx := fun ty => hn.run wr gi ty HI.out
        have hcm : ch ∈ l := List.mem_of_getElem? hch
        have HC := Lib.hid (HIS.out ch hcm)
        have HTK := Lib.hid (show headsH x ++ (l.take (j + 1)).flatMap (hdrs x h) = (headsH x ++ (l.take j).flatMap (hdrs x h)) ++ hdrs x h ch from by
          rw [List.take_add_one, hch]; simp)
        have HLE := Lib.hid (show (headsH x ++ (l.take j).flatMap (hdrs x h)).length ≤ 3000 from by
          have h1 := flat_len h HFW.out (l.take j) (fun c hc => HIS.out c (List.mem_of_mem_take hc))
          have h2 : (l.take j).length ≤ 6 := by have := HLN.out; rw [List.length_take]; omega
          rw [List.length_append, show (headsH x).length = 3 from rfl]; omega)
        have HI2 := Lib.hid (Lib.iterAt_heap _ _ _ _ (j + 1) HI.out)
        have hck := cells_iterAt HI.out (j + 1)
        have K2 := Lib.hid (show Blk (wr.iterAt gi t (j + 1)) g (ncells x h) 32 from hck.2 _ _ _ _ K.out)
        have HO2 := Lib.hid (row_carry HO.out (fun k c fz _ hk => hck.2 _ _ _ _ hk))
        have HB2 := Lib.hid (show Below w.heap.size w (wr.iterAt gi t (j + 1)) from Lib.below_iterAt HB.out HG.out t (j + 1))
        clear hn hch hcm hck HI K HO HB
        obtain ⟨w9, hw9⟩ : ∃ w9, w9 = wr.iterAt gi t (j + 1) := ⟨_, rfl⟩
        rw [← hw9] at hnx HI2 K2 HO2 HB2
        clear hw9
        have lf := load_note (o := 0) HX.out.ok.len K2.out.range
        generalize (headsH x ++ (l.take j).flatMap (hdrs x h)) = zs9 at *
        have WI := Lib.hid (show WIn w w9 zs9 v x h from ⟨HX.out, ⟨by have := HFW.out.I; omega, by have := HFW.out.W; omega⟩, HB2.out, HO2.out, HLE.out⟩)
        go_wp2_with fail
        refine (wwith_any w w9 zs9 v x h WI.out ch HC.out).mono ?_
        rintro e wt ⟨v8, rfl, ho8, hs8⟩
        rw [← List.length_append, ← HTK.out] at ho8
        have HO8 := Lib.hid ho8
        have HI8 := Lib.hid (hs8.iter HI2.out)
        have K8 := Lib.hid (hs8.blk K2.out note_ne_item)
        have HB8 := Lib.hid (hs8.bel _ HB2.out)
        clear ho8 hs8 lf HI2 K2 HO2 HB2 HTK HLE WI
        go_wp2_with fail
        go_roundg (t.size - (j + 1))
        case measure => omega
        case rel => exact ⟨j + 1, _, rfl, by omega, rfl, HI8, K8, HO8, HB8⟩
      · obtain rfl : j = t.size := by omega
        have hnx := fun ty => Lib.run_next_end_at (P := Tryz.prog) wr gi t t.size ty HI.out (by omega)
        have HTL := Lib.hid (show l.take t.size = l from List.take_of_length_le (by rw [HL.out]; exact Nat.le_refl _))
        obtain ⟨p, cp, rfl, q1, q2, hA, _, q3⟩ := nown_at HO.out
        rw [HTL.out] at hA q1 ⊢
        have HLA := Lib.hid (show LeftAt wr p (headsH x ++ l.flatMap (hdrs x h)).length cp (headsH x ++ l.flatMap (hdrs x h)) from ⟨rfl, q1, by unfold maxLen at q2; omega, q3, hA, fun y hy => by
          rcases List.mem_append.1 hy with hy | hy
          · exact heads_good HX.out.ok y hy
          · obtain ⟨c, hc, hy⟩ := List.mem_flatMap.1 hy
            exact hdrs_good (HX.out.below HB.out) (HIS.out c hc) y hy⟩)
        clear hA q3 HO HI K
        go_wp2_with fail
        go_ret
        exact ⟨p, _, cp, rfl, HLA.out, HB.out⟩
end
end
section
set_option linter.unusedSimpArgs false
set_option linter.unusedVariables false
open Go.RowKit Sha Nte
open Fld (Itm)
section
attribute [local go_sem ↓] execOp_nmakeItem execOp_buildItems
set_option maxRecDepth 100000 in
set_option maxHeartbeats 2000000 in
theorem rput15_any (B : Nat) (ys : List Hdr) (v : Value) (ns : List Int) (k : Nat) (hk : k = ns.length) (gn : Nat) (w : World) (hf : ∀ n ∈ ns, fit n) (hv : w.ownsRow B 118 34 v ys.length (ys.flatMap cellsI)) (hn : Blk w gn (ns.map nic) 3) (hB : B ≤ w.heap.size) (hle : ys.length ≤ 100000) (hk3 : k ≤ 3) :
    Calls Tryz.prog 91 #[v, .slice (some ⟨gn, 0, none⟩) k k] w (PWith B ys (ns.map nNh) w) := by
  have HF := Lib.hid hf
  have HV := Lib.hid hv
  have HN := Lib.hid hn
  have HB := Lib.hid hB
  have HK := Lib.hid hk
  clear hf hv hn hB hk
  go_enter Tryz.func91, Tryz.ntmps91
  go_wp2_with fail
  go_loopw [0, 5] (fun vv i wr => ∃ (j : Nat) (u : Value), u = vv ∧ i = .int .i64 j ∧ j ≤ k ∧ Hid (wr.ownsRow B 118 34 u (ys.length + j) ((ys ++ (ns.take j).map nNh).flatMap cellsI)) ∧ Hid (Stays 118 B w wr)) (fun _ i _ => k - (intOf i).toNat)
  case atStart => exact ⟨0, v, rfl, rfl, by omega, Lib.hid (by simpa using HV.out), Lib.hid (Stays.refl _ _ _)⟩
  case round =>
    obtain ⟨j, u, rfl, rfl, hj, HO, HS⟩ := hrel
    clear HV
    by_cases hlt : j < k
    · have hjn : j < ns.length := by rw [← HK.out]; exact hlt
      have HNr := Lib.hid (HS.out.blk HN.out item_ne_int)
      have cj : wr.cell? ⟨gn, j, none⟩ = some (nic ns[j]) := by rw [HNr.out.cell]; simp [hjn]
      have HTK := Lib.hid (show (ns.take (j + 1)).map nNh = (ns.take j).map nNh ++ [nNh ns[j]] from by
        rw [List.take_succ_eq_append_getElem hjn, List.map_append]; rfl)
      have hfj := HF.out _ (List.getElem_mem hjn)
      have HBr := Lib.hid (Nat.le_trans HB.out HS.out.size)
      generalize ns[j] = m at *
      have mk := fun w => nmake_iN m w
      have yok : (iN m : Itm).ok := iN_ok hfj
      have bi := build_item wr (q := none) (c := 0) yok
      have HL := Lib.hid (icells_length yok none 0)
      have HA := Lib.hid (nat_cells wr (icells (iN m) none 0) 118 (0, 0))
      have HO2 := Lib.hid (HO.out.alloc (.cells (icells (iN m) none 0).toArray 118))
      have HS2 := Lib.hid (HS.out.trans (Stays.below (t := 118) ((Below.refl _ wr).alloc (Nat.le_refl _) (.cells (icells (iN m) none 0).toArray 118)) HBr.out))
      have HB2 := Lib.hid (show B ≤ (wr.alloc (.cells (icells (iN m) none 0).toArray 118)).heap.size from by have := HBr.out; simp; omega)
      clear hfj yok hjn HO HS HNr
      go_wp2_with (at_builtin; refine wpList_app_s rfl (.tmp 12) (.tmp 18) 67 rfl B 118 (size := 34) (by omega) Tryz.underlying67 item_all3 nitem_zsize u (ys.length + j) _ rfl HO2.out (some ⟨wr.heap.size, 0, none⟩) 1 1 (icells (iN m) none 0) rfl HA.out (by rw [HL.out]) (fun h => by cases h) (Nat.le_refl _) (icells_one _ _ _) (by omega) (by unfold maxLen; omega) HB2.out ?_; intro v8' w8 hown8 hgr8 hat8)
      have HS8 := Lib.hid (HS2.out.trans (Stays.grown HO2.out hgr8 HB2.out))
      have HO8 := Lib.hid (show w8.ownsRow B 118 34 v8' (ys.length + (j + 1)) ((ys ++ (ns.take (j + 1)).map nNh).flatMap cellsI) from by
        rw [HTK.out, ← List.append_assoc, List.flatMap_append, List.flatMap_singleton]; exact hown8)
      clear hown8 hgr8 hat8 HO2 HS2 HB2 HA HL HTK
      go_wp2_with fail
      go_roundw
      case rel => exact ⟨j + 1, _, rfl, by go_num, by omega, HO8, HS8⟩
      case measure => simp [intOf]; omega
    · obtain rfl : j = k := by omega
      have HTL := Lib.hid (show ns.take j = ns from List.take_of_length_le (by rw [← HK.out]; exact Nat.le_refl _))
      go_wp2_with fail
      go_ret
      refine ⟨_, rfl, ?_, HS.out⟩
      have := HO.out
      rw [HTL.out] at this
      rw [List.length_map, ← HK.out]
      exact this
end
end
end Go.Proofs.YtbogjfmefkhglaaGreat
