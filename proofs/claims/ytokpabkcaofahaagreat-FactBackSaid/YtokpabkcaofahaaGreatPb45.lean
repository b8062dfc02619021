/-
  The program's Check; what the fact package is asked of bytes.
  The program's fold: facts done to a state's object, one behind the other.
  The program's do: a boot.
  The program's do: a boot, a blob, a decision (written by mkdp9.py).
  The program's do: a boot, a blob, a decision (written by mkdp9.py).
  Lists that rise, plain: what lies at a key's place behind a laying; changing a thing is setting it there.
  A vote in its row: what a store into it leaves; a row one of whose things is another.
-/
import Derived.Test.YtokpabkcaofahaaGreatPb44
import Derived.Test.YtokpabkcaofahaaGreatPb13
import Derived.Test.YtokpabkcaofahaaGreatPb40
import Derived.Test.YtokpabkcaofahaaGreatPb39
import Derived.Deep.RegionLaw
import Derived.Test.YtokpabkcaofahaaGreatPb15
namespace Go.Proofs.YtokpabkcaofahaaGreat
section
set_option linter.unusedSimpArgs false
set_option linter.unusedVariables false
open Go.RowKit Sha Fct
attribute [local go_sem ↓] execOp_boxFact execOp_loadFact
set_option maxRecDepth 100000 in
set_option maxHeartbeats 1000000 in
theorem pCheck_any (x : Fac) (q : Option Addr) (c : Nat) (w : World) (hx : sF.Good w x q c) :
    Calls Tryz.prog 15 #[.agg (fcells x q c).toArray] w fun e w' => e = .returned (.int .i64 (Fct.check x)) ∧ Below w.heap.size w w' := by
  have bx := run_boxOp (P := Tryz.prog) (t := 28) (cs := (fcells x q c).toArray) w
  have hb1 := (Below.refl w.heap.size w).alloc (Nat.le_refl _) (.cells (fcells x q c).toArray 28)
  have hk1 : Blk (w.alloc (.cells (fcells x q c).toArray 28)) w.heap.size (fcells x q c) 28 := Blk.new w (fcells x q c).toArray 28
  generalize w.alloc (.cells (fcells x q c).toArray 28) = w1 at *
  obtain ⟨g, hg⟩ : ∃ g, g = w.heap.size := ⟨_, rfl⟩
  rw [← hg] at hk1 bx
  have HB1 := Lib.hid hb1
  have HK1 := Lib.hid hk1
  have HX := Lib.hid hx
  have HFM := Lib.hid (fun w => forms_any w)
  clear hb1 hk1 hx hg
  have E0 := Lib.hid (fun W (hb : Below w1.heap.size w1 W) => load_factB (HK1.out.below hb HK1.out.lt) HX.out.ok.len)
  go_enter Tryz.func15, Tryz.ntmps15
  go_wp2_with fail
  go_region_held3 (fun w' => Below w1.heap.size w1 w' ∧ (loadOp 28 (.pointer (some ⟨g, 0, none⟩))).run Tryz.prog w' = .ok (.value (.agg (fcells x q c).toArray)) w')
    (exact ⟨(by (repeat (first | exact Below.refl _ _ | assumption | refine Below.drew ?_))), E0.out _ (by (repeat (first | exact Below.refl _ _ | assumption | refine Below.drew ?_)))⟩)
    ((first
      | (go_at_call 41; refine (HFM.out _).mono ?_; rintro e w2 ⟨m, rfl, hm, hb2⟩; (have hbw2 : Below w1.heap.size w1 w2 := below_next9 (by (repeat (first | exact Below.refl _ _ | assumption | refine Below.drew ?_))) hb2); (have l2 := E0.out _ hbw2); (have HM := Lib.hid hm); clear hb2 hm)
      | (go_at_call 42; refine (pcheck_any x q c m w2 HM.out (HX.out.below (HB1.out.trans (hbw2.mono HB1.out.size)))).mono ?_; rintro e w3 ⟨rfl, hb3⟩; (have hbw3 : Below w1.heap.size w1 w3 := below_next9 hbw2 hb3); (have l3 := E0.out _ hbw3); clear hb3)))
  all_goals (go_wp2_with fail; go_ret)
  all_goals exact ⟨rfl, HB1.out.trans (hbw3.mono HB1.out.size)⟩
theorem factBytes : FactsBytes where
  check x q c w hx _ := pCheck_any x q c w hx
  put x q c w hx _ := pput_any x q c w hx
  get b p n c w hn hb hA hle hm hp hs := pget_any b p n c w hn hb hA hle hm hp hs
end
section
set_option linter.unusedSimpArgs false
set_option linter.unusedVariables false
open Go.RowKit Go.Shelf Sha Fct
attribute [local go_sem] Oper.semAt_some
attribute [local go_sem ↓] execOp_allocFact execOp_allocSte execOp_storeFact execOp_storeSte execOp_boxSte execOp_loadSte execOp_makeSte execOp_loadFact
theorem results_ste {fn : Func} {p q : Tmp} (h : fn.results = #[.cell p 47, .cell q 32]) (tmps : Array Value) (w : World) (g g2 : Nat) (s : Ste) (k : Hds) (v2 : Int)
    (hp : tmps.getD p undef = .pointer (some ⟨g, 0, none⟩)) (hq : tmps.getD q undef = .pointer (some ⟨g2, 0, none⟩)) (hg : Blk w g (scells s k) 47) (h2 : w.cell? ⟨g2, 0, none⟩ = some (.int .i64 v2)) :
    (results fn tmps).run Tryz.prog w = .ok (.tuple #[.agg (scells s k).toArray, .int .i64 v2]) w := by
  have hp' : tmps[p]?.getD undef = .pointer (some ⟨g, 0, none⟩) := by simpa using hp
  have hq' : tmps[q]?.getD undef = .pointer (some ⟨g2, 0, none⟩) := by simpa using hq
  have e1 := run_loadVar_row (P := Tryz.prog) w g 47 47 (scells s k).toArray (0, 0) _ hg Tryz.underlying47 rfl (ste_sizeA s k)
  have e2 : (loadVar 32 ⟨g2, 0, none⟩).run Tryz.prog w = .ok (.int .i64 v2) w := by simp [go_sem, h2]
  simp [results, h, hp', hq', asAddr, e1, e2]
def FoldP (w : World) (B : Nat) (t : Ste × Int) (e : Ending) (w' : World) : Prop :=
  ∃ r' k', e = .returned (.tuple #[.agg (scells t.1 k').toArray, .int .i64 t.2]) ∧ ocells t.1 r' = scells t.1 k' ∧ StR w' B t.1 r' ∧ Chg (fun j => OwnR w B j) w w'
theorem ends_chg {W : World} {g2 g3 D : Nat} (c2 : List Value) (v3 : Value) (x : Obj) : Chg (fun j => j = g2 ∨ j = g3 ∨ j = D) W (((W.setRow g2 c2.toArray).setCell ⟨g3, 0, none⟩ v3).putObj D x) := by
  refine ⟨rfl, rfl, rfl, ?_, fun k _ hn => ?_⟩
  · simp [World.putObj, World.setCell, World.setRow]
  · rw [World.putObj_heap_other (fun e => hn (Or.inr (Or.inr e))), Below.heap_setCell _ _ _ _ (fun e => hn (Or.inr (Or.inl e))), setRow_other _ _ _ _ (fun e => hn (Or.inl e))]
theorem StR.ends {W W' : World} {B g2 g3 D : Nat} {t : Ste} {r : Rows9} {c2 c3 : List Value} {x : Option (List Deferred)} (h : StR W B t r) (h2 : Blk W g2 c2 47) (h3 : Blk W g3 c3 32) (hD : W.heap[D]? = some (.deferred x)) (hc : Chg (fun j => j = g2 ∨ j = g3 ∨ j = D) W W') : StR W' B t r :=
  h.chg hc fun k cs fz t hk ht e => by
    have h4 : t ≠ 47 ∧ t ≠ 32 := by
      rcases ht with ht | ht
      · rcases ht with rfl | rfl | rfl | rfl | rfl <;> decide
      · subst ht; decide
    unfold Blk at h2 h3
    rcases e with rfl | rfl | rfl
    · rw [hk] at h2; cases h2; exact h4.1 rfl
    · rw [hk] at h3; cases h3; exact h4.2 rfl
    · rw [hk] at hD; cases hD
theorem chg_fold {w w1 W : World} {B g g2 g3 D : Nat} {X : Nat → Prop} (hb : Below w.heap.size w w1) (hg : w.heap.size ≤ g) (h2 : w.heap.size ≤ g2) (h3 : w.heap.size ≤ g3) (hX : ∀ k, X k → w.heap.size ≤ k) (hc : Chg (fun j => Own9 w1 B g j ∨ X j) w1 W) : Chg (fun j => OwnR w B j) w W :=
  ⟨hc.os.trans hb.os, hc.tape.trans hb.tape, hc.output.trans hb.output, Nat.le_trans hb.size hc.size, fun k hk hn => by
    refine (hc.block k (Nat.lt_of_lt_of_le hk hb.size) fun e => ?_).trans (hb.block k hk)
    rcases e with (e | ⟨e1, cs, t, fz, e2, e3⟩) | e
    · omega
    · exact hn ⟨e1, cs, t, fz, (hb.block k hk).symm.trans e2, e3⟩
    · have := hX k e; omega⟩
/-- A fact that was there lies as it lay. -/
theorem good_own {w0 w W : World} {B g : Nat} {x : Fac} {q : Option Addr} {c : Nat} {X : Nat → Prop} (h : sF.Good w0 x q c) (hb : Below w0.heap.size w0 w) (hB : w0.heap.size ≤ B) (hg : B ≤ g) (hX : ∀ k, X k → B ≤ k) (hc : Chg (fun j => Own9 w B g j ∨ X j) w W) : sF.Good W x q c :=
  h.carry fun p v hv => by
    have hp := World.block_lt_of_cell? w0 p hv
    have h1 := hc.block p.block (Nat.lt_of_lt_of_le hp hb.size) (fun e => by
      rcases e with (e | ⟨e, _⟩) | e
      · omega
      · omega
      · have := hX _ e; omega)
    exact (World.cell?_of_block (w := w0) (a := p) (h1.trans (hb.block _ hp))).trans hv
theorem good_low {w0 : World} {x : Fac} {q : Option Addr} {c : Nat} {B : Nat} (h : sF.Good w0 x q c) (hB : w0.heap.size ≤ B) : x.B = [] ∨ ∀ a, q = some a → a.block < B := by
  rcases h.at_ with h1 | ⟨b, off, rfl, hc⟩
  · exact Or.inl (List.map_eq_nil_iff.1 (show x.B.map v8 = [] from h1))
  · cases hx : x.B with
    | nil => exact Or.inl rfl
    | cons m l =>
      right
      rintro a ha
      cases ha
      have h2 := hc 0 (v8 m) (by rw [show sF.byt x = x.B from rfl, hx]; rfl)
      exact Nat.lt_of_lt_of_le (World.block_lt_of_cell? w0 _ h2) hB
theorem run_stop (l : List Fac) : ∀ (s t : Ste) (k : Nat) (hk : k < l.length), s.run (l.take k) = (t, 0) → can l[k] = false → s.run l = (Ste.none, 2) := by
  intro s t k hk h1 h2
  have h3 := run_append (l.take k) (l.drop k) s t h1
  rw [List.take_append_drop] at h3
  rw [h3, List.drop_eq_getElem_cons hk, Ste.run, if_neg (by simp [h2])]
theorem run_step (l : List Fac) (s t : Ste) (k : Nat) (hk : k < l.length) (h1 : s.run (l.take k) = (t, 0)) (h2 : can l[k] = true) : s.run (l.take (k + 1)) = (t.on l[k], 0) := by
  rw [List.take_succ_eq_append_getElem hk, run_append _ _ _ _ h1, Ste.run, if_pos h2]; rfl
/-- What a fold holds between two rounds. -/
def FoldI (s : Ste) (l : List Fac) (w1 : World) (B g : Nat) (k : Nat) (W : World) : Prop :=
  ∃ t r, s.run (l.take k) = (t, 0) ∧ Sound t ∧ StO W B g t r ∧ Chg (fun j => Own9 w1 B g j ∨ False) w1 W
def FoldX (s : Ste) (l : List Fac) (w1 : World) (B g g2 g3 : Nat) (c : Code) (_ : Nat) (W : World) : Prop :=
  c = .ret ∧ s.run l = (Ste.none, 2) ∧ Blk W g2 (scells Ste.none Hds.none) 47 ∧ Blk W g3 [.int .i64 2] 32 ∧ Chg (fun j => Own9 w1 B g j ∨ (j = g2 ∨ j = g3)) w1 W
theorem blk_ownF {β : Type} (g B : Nat) (t : TypeId) (cs : List Value) : OwnFrom (β := β) B (fun _ W => Blk W g cs t) := fun _ W W' row hs hg hr => blk_grown hs hg fun e => by
  obtain ⟨_, o, ho, hc⟩ := hr g e
  rw [show W.heap[g]? = _ from hs] at ho; cases ho; cases hc
theorem chg_ownF {β : Type} {w1 : World} {B : Nat} {X : Nat → Prop} (hB : w1.heap.size ≤ B) : OwnFrom (β := β) B (fun _ W => Chg X w1 W) := fun _ W W' row hs hg hr => hs.grown hg fun k e hk => by
  have := (hr k e).1; omega
theorem stO_grown {W W' : World} {B B' g : Nat} {t : Ste} {r : Rows9} {row : Option Nat} (h : StO W B g t r) (hg : W.grownBy W' row) (hr : ∀ k, row = some k → B' ≤ k ∧ ∃ o : Obj, W.heap[k]? = some o ∧ o.isCells = false) : StO W' B g t r :=
  h.chg (Q := fun k => row = some k) ((Chg.refl _ W).grown hg fun k e _ => e) fun k cs fz t hk _ e => by
    obtain ⟨_, o, ho, hc⟩ := hr k e
    rw [hk] at ho; cases ho; cases hc
theorem foldI_own (s : Ste) (l : List Fac) (w1 : World) (B g : Nat) : OwnFrom w1.heap.size (FoldI s l w1 B g) := fun k W W' row ⟨t, r, h1, h2, h3, h4⟩ hg hr =>
  ⟨t, r, h1, h2, stO_grown h3 hg hr, chg_ownF (Nat.le_refl _) k W W' row h4 hg hr⟩
theorem foldX_own (s : Ste) (l : List Fac) (w1 : World) (B g g2 g3 : Nat) (c : Code) : OwnFrom w1.heap.size (FoldX s l w1 B g g2 g3 c) := fun k W W' row ⟨h1, h2, h3, h4, h5⟩ hg hr =>
  ⟨h1, h2, blk_ownF g2 _ _ _ k W W' row h3 hg hr, blk_ownF g3 _ _ _ k W W' row h4 hg hr, chg_ownF (Nat.le_refl _) k W W' row h5 hg hr⟩
end
section
set_option linter.unusedSimpArgs false
set_option linter.unusedVariables false
open Go.RowKit Sha Fct
attribute [local go_sem ↓] execOp_boxFact
/-- A number, a truth of the object is set. -/
theorem StO.setOne {w : World} {B g : Nat} {s t : Ste} {r : Rows9} (h : StO w B g s r) (i : Nat) (v : Value) (hc : (ocells s r).set i v = ocells t r) (hb : t.blobs = s.blobs) (hk : t.keeps = s.keeps) (hh : t.hints = s.hints) (hv : t.votes = s.votes) (hd : t.decs = s.decs) :
    StO (w.setCell ⟨g, i, none⟩ v) B g t r ∧ Chg (fun k => Own9 w B g k ∨ False) w (w.setCell ⟨g, i, none⟩ v) := by
  have hg := setCell_grown w g i v
  have hch : Chg (fun k => k = g) w (w.setCell ⟨g, i, none⟩ v) := (Chg.refl _ w).grown hg fun k hk _ => by cases hk; rfl
  have hn : ∀ k cs fz t', w.heap[k]? = some (.cells cs t' fz) → t' ≠ 47 → ¬ k = g := by
    rintro k cs fz t' hk ht rfl
    have h3 := h.blk
    unfold Blk at h3
    rw [hk] at h3; simp at h3; exact ht h3.2.1
  have hb2 := h.blk.set i v
  rw [hc] at hb2
  refine ⟨⟨hb2, h.lo, h.b.chg hch fun k cs fz t hk ht => hn k cs fz t hk (by rcases ht with rfl | rfl <;> decide), by rw [hb]; exact h.be, h.k.chg hch fun k cs fz t hk ht => hn k cs fz t hk (by rcases ht with rfl | rfl <;> decide), by rw [hk]; exact h.ke, h.h.chg hch fun k cs fz t hk ht => hn k cs fz t hk (by rcases ht with rfl | rfl <;> decide), by rw [hh]; exact h.he,
    h.v.chg hch fun k cs fz t hk ht => hn k cs fz t hk (by rcases ht with rfl | rfl <;> decide), by rw [hv]; exact h.ve, h.d.chg hch fun k cs fz t hk ht => hn k cs fz t hk (by rcases ht with rfl | rfl <;> decide), by rw [hd]; exact h.de⟩, hch.mono fun k _ e => Or.inl (Or.inl e)⟩
set_option maxRecDepth 100000 in
set_option maxHeartbeats 4000000 in
theorem do_boot (w : World) (B g : Nat) (s : Ste) (r : Rows9) (f : Fac) (q : Option Addr) (c : Nat) (h : StO w B g s r) (hf : f.K = 2) :
    Calls Tryz.prog 92 #[.pointer (some ⟨g, 0, none⟩), .agg (fcells f q c).toArray] w (DoP w B g (s.on f)) := by
  obtain ⟨w1, hb⟩ := fbx9 w f q c
  have bx := hb.b1
  have cK := hb.K
  have cS := hb.S
  have h1 := h.below hb.below
  have c0 : w1.cell? ⟨g, 1, none⟩ = some (.int .i64 s.boot) := h1.blk.cell 1
  have f0 := h1.blk.free 1
  have HE := Lib.hid (on_2 s hf)
  have HP := Lib.hid (fun n (hn : n = max s.boot f.S) => h1.setOne (t := { s with boot := max s.boot f.S }) 1 (.int .i64 n) (by subst hn; rfl) rfl rfl rfl rfl rfl)
  have HB := Lib.hid hb.below
  rw [hf] at cK
  obtain ⟨gf, hgf⟩ : ∃ b, b = w.heap.size := ⟨_, rfl⟩
  rw [← hgf] at bx cK cS
  clear hgf
  clear hb h h1 hf
  go_enter Tryz.func92, Tryz.ntmps92
  go_wp2_with fail
  go_region_law (fail)
  all_goals (
    go_end0
    obtain ⟨p1, p2⟩ := HP.out (if s.boot < f.S then f.S else s.boot) (by split <;> omega)
    rw [HE.out]
    exact StOP.from ⟨rfl, r, p1.below (Below.refl _ _).drew, p2.grown (below_grown (Below.refl _ _).drew none) (by intro k hk; cases hk)⟩ HB.out)
end
section
set_option linter.unusedSimpArgs false
set_option linter.unusedVariables false
open Go.RowKit Sha Fct
attribute [local go_sem ↓] execOp_boxFact execOp_loadFact execOp_loadId execOp_makeOB
set_option maxRecDepth 100000 in
set_option maxHeartbeats 20000000 in
theorem do_blob (w : World) (B g : Nat) (s : Ste) (r : Rows9) (f : Fac) (q : Option Addr) (c : Nat) (h : StO w B g s r) (hf : f.K = 3) (hg : sF.Good w f q c) (hd : idOk f.D) (hbl : f.B.length ≤ 1000000) (hs : Sound s) (hl : Lens r) (hB : B ≤ w.heap.size) :
    Calls Tryz.prog 92 #[.pointer (some ⟨g, 0, none⟩), .agg (fcells f q c).toArray] w (DoP w B g (s.on f)) := by
  obtain ⟨px, cx, hvx, _⟩ := h.b.told
  obtain ⟨w1, hb⟩ := fbx9 w f q c
  have bx := hb.b1
  have cK := hb.K
  have cS := hb.S
  rw [hf] at cK
  have hk1 := hb.k1
  have h1 := h.below hb.below
  obtain ⟨gf, hgf⟩ : ∃ b, b = w.heap.size := ⟨_, rfl⟩
  rw [← hgf] at bx cK cS hk1
  clear hgf
  have hD := hg.ok.len
  have v1 : w1.cell? ⟨g, 2, none⟩ = some (.slice px r.yb.length cx) := by rw [h1.blk.cell 2, ← hvx]; rfl
  have d1 : w1.cell? ⟨gf, 37, none⟩ = some (.slice q f.B.length c) := (hk1.cell 37).trans (fcells_B hD q c)
  have l0 := fact_id (w := w1.drew) (g := gf) (f := f) (q := q) (c := c) hk1 hD
  have HB1 := Lib.hid hb.below
  have HS1 := Lib.hid h1
  have HK1 := Lib.hid hk1
  have HGD := Lib.hid hg
  have HD := Lib.hid hd
  have HL := Lib.hid hD
  have HBL := Lib.hid hbl
  have HVX := Lib.hid hvx
  have HBW := Lib.hid (Nat.le_trans hB hb.below.size)
  have HE := Lib.hid h.be
  have HUP := Lib.hid (show Rise.Up bkey Sha.less (r.yb.map (·.1)) by rw [h.be]; exact hs.blobsUp)
  have HLN := Lib.hid hl.b
  have HON := Lib.hid (on_3 s hf)
  obtain ⟨nb, hnb⟩ : ∃ n, n = f.B.length := ⟨_, rfl⟩
  rw [← hnb] at d1
  have HNB := Lib.hid hnb
  have mk := fun (q4 : Option Addr) (c4 : Nat) (w : World) => makeOB f.D f.B hD q4 nb c4 hnb w
  obtain ⟨nx, hnx⟩ : ∃ n, n = r.yb.length := ⟨_, rfl⟩
  rw [← hnx] at v1
  have HNX := Lib.hid hnx
  have HCL := Lib.hid (fun (W : World) (hW : Below w1.heap.size w1 W) => (show Calls Tryz.prog 128 #[.slice q nb c] W (CpyP W f.B nb) from by
    have h2 := (hg.below hb.below).below hW
    exact clone8_any f.B nb q c W hnb.symm h2.at_ (by rw [hnb]; exact h2.le) h2.max h2.nil (by rw [hnb]; exact hbl)))
  have HPL := Lib.hid (fun (W : World) (hW : Below w1.heap.size w1 W) (q4 : Option Addr) (c4 : Nat) (hc : Cpy W f.B q4 c4) => (show Calls Tryz.prog 127 #[.slice px nx cx, .agg (bcells (f.D, f.B) q4 c4).toArray, .func (.func 129) #[] #[]] W (PlcB W B r.vb (r.yb.map (·.1)) (f.D, f.B)) from by
    have h2 := place_B W B r.vb r.yb (h1.below hW).b (by rw [h.be]; exact hs.blobsUp) (f.D, f.B) q4 c4 ⟨⟨hd, hg.ok.B⟩, hc.at_, hc.le, hc.max, hc.nil⟩ hc.u8 hl.b (Nat.le_trans (Nat.le_trans hB hb.below.size) hW.size)
    rw [hvx, ← hnx] at h2 ⊢
    exact h2))
  clear hb h h1 hk1 hg hd hbl hvx hB hs hl hf hD hnb hnx
  go_enter Tryz.func92, Tryz.ntmps92
  go_wp2_with fail
  go_region_law ((first
    | (go_simp; go_at_call 128; refine (HCL.out _ (Below.refl _ w1).drew).mono ?_; rintro e w4 ⟨q4, c4, rfl, hc4, hb4⟩; (have HB4 := Lib.hid (show Below w1.heap.size w1 w4 from (Below.refl _ w1).drew.trans hb4)); (have HC4 := Lib.hid hc4); clear hb4 hc4; (have v4 : w4.cell? ⟨g, 2, none⟩ = some (.slice px nx cx) := (HB4.out.cell (p := ⟨g, 2, none⟩) (World.block_lt_of_cell? w1 _ v1)).trans v1); (have s4 : w4.cell? ⟨gf, 1, none⟩ = some (i64c f.S) := (HB4.out.cell (p := ⟨gf, 1, none⟩) (World.block_lt_of_cell? w1 _ cS)).trans cS); (have l4 := fact_id (HK1.out.below HB4.out HK1.out.lt) HL.out); (have m4 := mk q4 c4))
    | (go_simp; go_at_call 127; refine (HPL.out _ HB4.out q4 c4 HC4.out).mono ?_; rintro e w3 ⟨v', zs, rfl, hr3, hz3, hg3, _, _⟩; (obtain ⟨v3, f3, hs3, hc3, _⟩ := plcS_B (HS1.out.below HB4.out) (Below.refl _ _) hr3 hg3); (obtain ⟨q5, c5, rfl, _⟩ := hr3.told); (rw [HVX.out] at v3); (have HS3 := Lib.hid hs3); (have HC3 := Lib.hid hc3); (have HZ3 := Lib.hid hz3); clear hs3 hc3 hz3 hr3 hg3; generalize zs.length = n5 at *)))
  all_goals (
    go_wp2_with fail
    go_end0
    have hs := HS3.out
    rw [HZ3.out, HE.out] at hs
    have hbb := HB1.out.trans (HB4.out.mono HB1.out.size)
    rw [HON.out]
    exact ⟨rfl, _, hs, chg9_trans ((Chg.refl _ w).grown (below_grown hbb none) fun k hk => by cases hk) HC3.out⟩)
end
section
set_option linter.unusedSimpArgs false
set_option linter.unusedVariables false
open Go.RowKit Sha Fct
attribute [local go_sem ↓] execOp_boxFact execOp_loadFact execOp_loadId execOp_makeOB
set_option maxRecDepth 100000 in
set_option maxHeartbeats 20000000 in
theorem do_decide (w : World) (B g : Nat) (s : Ste) (r : Rows9) (f : Fac) (q : Option Addr) (c : Nat) (h : StO w B g s r) (hf : f.K = 9) (hg : sF.Good w f q c) (hd : idOk f.D) (hbl : f.B.length ≤ 1000000) (hs : Sound s) (hl : Lens r) (hB : B ≤ w.heap.size) :
    Calls Tryz.prog 92 #[.pointer (some ⟨g, 0, none⟩), .agg (fcells f q c).toArray] w (DoP w B g (s.on f)) := by
  obtain ⟨px, cx, hvx, _⟩ := h.d.told
  obtain ⟨w1, hb⟩ := fbx9 w f q c
  have bx := hb.b1
  have cK := hb.K
  have cS := hb.S
  rw [hf] at cK
  have hk1 := hb.k1
  have h1 := h.below hb.below
  obtain ⟨gf, hgf⟩ : ∃ b, b = w.heap.size := ⟨_, rfl⟩
  rw [← hgf] at bx cK cS hk1
  clear hgf
  have hD := hg.ok.len
  have v1 : w1.cell? ⟨g, 6, none⟩ = some (.slice px r.yd.length cx) := by rw [h1.blk.cell 6, ← hvx]; rfl
  have d1 : w1.cell? ⟨gf, 37, none⟩ = some (.slice q f.B.length c) := (hk1.cell 37).trans (fcells_B hD q c)
  have l0 := fact_id (w := w1.drew) (g := gf) (f := f) (q := q) (c := c) hk1 hD
  have HB1 := Lib.hid hb.below
  have HS1 := Lib.hid h1
  have HK1 := Lib.hid hk1
  have HGD := Lib.hid hg
  have HD := Lib.hid hd
  have HL := Lib.hid hD
  have HBL := Lib.hid hbl
  have HVX := Lib.hid hvx
  have HBW := Lib.hid (Nat.le_trans hB hb.below.size)
  have HE := Lib.hid h.de
  have HUP := Lib.hid (show Rise.Up dkey ilt (r.yd.map (·.1)) by rw [h.de]; exact hs.decsUp)
  have HLN := Lib.hid hl.d
  have HON := Lib.hid (on_9 s hf)
  obtain ⟨nb, hnb⟩ : ∃ n, n = f.B.length := ⟨_, rfl⟩
  rw [← hnb] at d1
  have HNB := Lib.hid hnb
  have mk := fun (q4 : Option Addr) (c4 : Nat) (w : World) => makeOD f.S f.B q4 nb c4 hnb w
  obtain ⟨nx, hnx⟩ : ∃ n, n = r.yd.length := ⟨_, rfl⟩
  rw [← hnx] at v1
  have HNX := Lib.hid hnx
  have HCL := Lib.hid (fun (W : World) (hW : Below w1.heap.size w1 W) => (show Calls Tryz.prog 128 #[.slice q nb c] W (CpyP W f.B nb) from by
    have h2 := (hg.below hb.below).below hW
    exact clone8_any f.B nb q c W hnb.symm h2.at_ (by rw [hnb]; exact h2.le) h2.max h2.nil (by rw [hnb]; exact hbl)))
  have HPL := Lib.hid (fun (W : World) (hW : Below w1.heap.size w1 W) (q4 : Option Addr) (c4 : Nat) (hc : Cpy W f.B q4 c4) => (show Calls Tryz.prog 133 #[.slice px nx cx, .agg #[i64c f.S, .slice q4 nb c4], .func (.func 134) #[] #[]] W (PlcD W B r.vd (r.yd.map (·.1)) (f.S, f.B)) from by
    have h2 := place_D W B r.vd r.yd (h1.below hW).d (by rw [h.de]; exact hs.decsUp) (f.S, f.B) q4 c4 ⟨⟨hg.ok.S, hg.ok.B⟩, hc.at_, hc.le, hc.max, hc.nil⟩ hc.u8 hl.d (Nat.le_trans (Nat.le_trans hB hb.below.size) hW.size)
    rw [hvx, ← hnx] at h2 ⊢
    rw [hnb]
    exact h2))
  clear hb h h1 hk1 hg hd hbl hvx hB hs hl hf hD hnb hnx
  go_enter Tryz.func92, Tryz.ntmps92
  go_wp2_with fail
  go_region_law ((first
    | (go_simp; go_at_call 128; refine (HCL.out _ (Below.refl _ w1).drew).mono ?_; rintro e w4 ⟨q4, c4, rfl, hc4, hb4⟩; (have HB4 := Lib.hid (show Below w1.heap.size w1 w4 from (Below.refl _ w1).drew.trans hb4)); (have HC4 := Lib.hid hc4); clear hb4 hc4; (have v4 : w4.cell? ⟨g, 6, none⟩ = some (.slice px nx cx) := (HB4.out.cell (p := ⟨g, 6, none⟩) (World.block_lt_of_cell? w1 _ v1)).trans v1); (have s4 : w4.cell? ⟨gf, 1, none⟩ = some (i64c f.S) := (HB4.out.cell (p := ⟨gf, 1, none⟩) (World.block_lt_of_cell? w1 _ cS)).trans cS); (have l4 := fact_id (HK1.out.below HB4.out HK1.out.lt) HL.out); (have m4 := mk q4 c4))
    | (go_simp; go_at_call 133; refine (HPL.out _ HB4.out q4 c4 HC4.out).mono ?_; rintro e w3 ⟨v', zs, rfl, hr3, hz3, hg3, _, _⟩; (obtain ⟨v3, f3, hs3, hc3, _⟩ := plcS_D (HS1.out.below HB4.out) (Below.refl _ _) hr3 hg3); (obtain ⟨q5, c5, rfl, _⟩ := hr3.told); (rw [HVX.out] at v3); (have HS3 := Lib.hid hs3); (have HC3 := Lib.hid hc3); (have HZ3 := Lib.hid hz3); clear hs3 hc3 hz3 hr3 hg3; generalize zs.length = n5 at *)))
  all_goals (
    go_wp2_with fail
    go_end0
    have hs := HS3.out
    rw [HZ3.out, HE.out] at hs
    have hbb := HB1.out.trans (HB4.out.mono HB1.out.size)
    rw [HON.out]
    exact ⟨rfl, _, hs, chg9_trans ((Chg.refl _ w).grown (below_grown hbb none) fun k hk => by cases hk) HC3.out⟩)
end
section
namespace Rise
set_option linter.unusedSimpArgs false
set_option linter.unusedVariables false
variable {α κ : Type} [DecidableEq κ] {key : α → κ} {lt : κ → κ → Bool}
theorem found_some {k : κ} {l : List α} (h : found key lt k l = true) : ∃ y, look key lt k l = some y := Option.isSome_iff_exists.1 h
theorem look_drop {k : κ} {l : List α} {y : α} (h : look key lt k l = some y) : ∃ r, l.drop (place key lt k l) = y :: r := by
  obtain ⟨r, hr, _⟩ := look_some h
  exact ⟨r, by rw [drop_place]; exact hr⟩
theorem add_at (x0 : α) (l : List α) : (add key lt x0 l)[place key lt (key x0) l]? = some ((look key lt (key x0) l).getD x0) := by
  cases hf : found key lt (key x0) l with
  | true =>
    obtain ⟨y, hy⟩ := found_some hf
    obtain ⟨r, hr⟩ := look_drop hy
    rw [add_found hf, hy]
    have : l[place key lt (key x0) l]? = (l.drop (place key lt (key x0) l))[0]? := by rw [List.getElem?_drop]; simp
    rw [this, hr]; rfl
  | false =>
    rw [add_new hf, found_no hf]
    rw [List.getElem?_append_right (by rw [List.length_take]; omega), List.length_take, Nat.min_eq_left (place_le _ _)]
    simp
theorem upd_set (x0 x : α) (h : key x = key x0) (l : List α) : upd key lt x l = (add key lt x0 l).set (place key lt (key x0) l) x := by
  cases hf : found key lt (key x0) l with
  | true =>
    obtain ⟨y, hy⟩ := found_some hf
    obtain ⟨r, hr⟩ := look_drop hy
    rw [add_found hf, upd_some (x := x) (by rw [h]; exact hy), h, ← take_place, ← drop_place, hr]
    have hp := place_le (key := key) (lt := lt) (key x0) l
    generalize place key lt (key x0) l = p at *
    have e : l.set p x = (l.take p ++ y :: r).set p x := by conv => lhs; rw [← List.take_append_drop p l, hr]
    rw [e, List.set_append_right _ _ (by rw [List.length_take]; omega), List.length_take, Nat.min_eq_left hp]
    simp
  | false =>
    rw [add_new hf, upd_none (x := x) (by rw [h]; exact found_no hf), h, ← take_place, ← drop_place]
    rw [List.set_append_right _ _ (by rw [List.length_take]; omega), List.length_take, Nat.min_eq_left (place_le _ _)]
    simp
end Rise
end
section
set_option linter.unusedSimpArgs false
set_option linter.unusedVariables false
open Go.RowKit Sha Fct
section
variable {V : Type} {S : Shp V} {w w' : World} {t : TypeId} {B : Nat}
/-- Where the k-th thing lies in the row's block. -/
theorem Rws.mid {v : Value} {ys : List (Hd V)} (h : Rws S t w B v ys) (k : Nat) (hk : k < ys.length) : ∃ g cap rest, v = .slice (some ⟨g, 0, none⟩) ys.length cap ∧ B ≤ g ∧ ys.length ≤ cap ∧ cap ≤ maxLen ∧
    Blk w g ((ys.take k).flatMap S.row ++ S.row ys[k] ++ ((ys.drop (k + 1)).flatMap S.row ++ rest)) t ∧ ((ys.take k).flatMap S.row).length = k * S.n ∧ (ys.flatMap S.row ++ rest).length = cap * S.n := by
  obtain ⟨g, cap, rest, hv, h1, h2, h3, hb, hl, hl2⟩ := own_whole h.own (by omega)
  refine ⟨g, cap, rest, hv, h1, h2, h3, ?_, ?_, hl2⟩
  · rw [flat_el h.ok k hk, List.append_assoc ((ys.take k).flatMap S.row ++ S.row ys[k])] at hb; exact hb
  · rw [flat_len (fun y hy => h.ok y (List.mem_of_mem_take hy)), List.length_take, Nat.min_eq_left (by omega)]
theorem set_parts {α : Type} (l : List α) (k : Nat) (hk : k < l.length) (x : α) : l.set k x = l.take k ++ x :: l.drop (k + 1) := by
  rw [List.set_eq_take_append_cons_drop, if_pos hk]
/-- The k-th thing is another. -/
theorem Rws.setAt {ys : List (Hd V)} {g cap : Nat} {rest : List Value} {k : Nat} (hk : k < ys.length) (y : Hd V) (hB : B ≤ g) (hc : ys.length ≤ cap) (hm : cap ≤ maxLen) (hb : Blk w' g ((ys.take k).flatMap S.row ++ S.row y ++ ((ys.drop (k + 1)).flatMap S.row ++ rest)) t)
    (hok : ∀ z ∈ ys, S.ok z.1) (hl2 : (ys.flatMap S.row ++ rest).length = cap * S.n) (hold : ∀ z ∈ ys, S.Good w' z.1 z.2.1 z.2.2 ∧ U8 w' z.2.1 (S.byt z.1)) (hy : S.Good w' y.1 y.2.1 y.2.2 ∧ U8 w' y.2.1 (S.byt y.1)) :
    Rws S t w' B (.slice (some ⟨g, 0, none⟩) ys.length cap) (ys.set k y) := by
  have hok2 : ∀ z ∈ ys.set k y, S.ok z.1 := fun z hz => by
    rcases List.mem_or_eq_of_mem_set hz with h | rfl
    · exact hok z h
    · exact hy.1.ok
  have hfl : (ys.set k y).flatMap S.row ++ rest = (ys.take k).flatMap S.row ++ S.row y ++ ((ys.drop (k + 1)).flatMap S.row ++ rest) := by
    rw [set_parts ys k hk, List.flatMap_append, List.flatMap_cons]; simp only [List.append_assoc]
  have hll : ((ys.set k y).flatMap S.row).length = ys.length * S.n := by rw [flat_len hok2, List.length_set]
  refine ⟨?_, fun z hz => ?_⟩
  · have h2 := own_ofBlk (B := B) (w := w') (e := t) (s := S.n) (n := ys.length) (cap := cap) (xs := (ys.set k y).flatMap S.row) (rest := rest) hB (by rw [hfl]; exact hb) hc hm hll (by
      rw [List.length_append, hll]; rw [List.length_append, flat_len hok] at hl2; exact hl2)
    rw [List.length_set]; exact h2
  · rcases List.mem_or_eq_of_mem_set hz with h | rfl
    · exact hold z h
    · exact hy
end
section
variable {w : World} {g : Nat} {A D : List Value} {q : Option Addr} {c : Nat} {t : TypeId}
theorem vote_P (x : Vot) (N O : Int) (h : Blk w g (A ++ vcells x q c ++ D) t) : Blk (w.setCells g (A.length + 1) [i64c N, i64c O]) g (A ++ vcells ⟨x.S, N, O, x.AN, x.AO, x.B⟩ q c ++ D) t := by
  have e : ∀ (p r : Int), A ++ vcells ⟨x.S, p, r, x.AN, x.AO, x.B⟩ q c ++ D = (A ++ [i64c x.S]) ++ [i64c p, i64c r] ++ ([i64c x.AN, i64c x.AO, .slice q x.B.length c] ++ D) := fun p r => by unfold vcells; simp
  have h2 : Blk w g ((A ++ [i64c x.S]) ++ [i64c x.PN, i64c x.PO] ++ ([i64c x.AN, i64c x.AO, .slice q x.B.length c] ++ D)) t := by rw [← e]; exact h
  rw [e]
  exact Blk.setCells [i64c N, i64c O] (A.length + 1) w _ _ _ h2 (by simp) rfl
theorem vote_A (x : Vot) (N O : Int) (h : Blk w g (A ++ vcells x q c ++ D) t) : Blk (w.setCells g (A.length + 3) [i64c N, i64c O]) g (A ++ vcells ⟨x.S, x.PN, x.PO, N, O, x.B⟩ q c ++ D) t := by
  have e : ∀ (p r : Int), A ++ vcells ⟨x.S, x.PN, x.PO, p, r, x.B⟩ q c ++ D = (A ++ [i64c x.S, i64c x.PN, i64c x.PO]) ++ [i64c p, i64c r] ++ ([.slice q x.B.length c] ++ D) := fun p r => by unfold vcells; simp
  have h2 : Blk w g ((A ++ [i64c x.S, i64c x.PN, i64c x.PO]) ++ [i64c x.AN, i64c x.AO] ++ ([.slice q x.B.length c] ++ D)) t := by rw [← e]; exact h
  rw [e]
  exact Blk.setCells [i64c N, i64c O] (A.length + 3) w _ _ _ h2 (by simp) rfl
theorem vote_D (x : Vot) (b : List Int) (q' : Option Addr) (c' : Nat) (h : Blk w g (A ++ vcells x q c ++ D) t) : Blk (w.setCell ⟨g, A.length + 5, none⟩ (.slice q' b.length c')) g (A ++ vcells ⟨x.S, x.PN, x.PO, x.AN, x.AO, b⟩ q' c' ++ D) t := by
  have e : ∀ (b : List Int) (q : Option Addr) (c : Nat), A ++ vcells ⟨x.S, x.PN, x.PO, x.AN, x.AO, b⟩ q c ++ D = (A ++ [i64c x.S, i64c x.PN, i64c x.PO, i64c x.AN, i64c x.AO]) ++ [.slice q b.length c] ++ D := fun b q c => by unfold vcells; simp
  have h2 : Blk w g ((A ++ [i64c x.S, i64c x.PN, i64c x.PO, i64c x.AN, i64c x.AO]) ++ [.slice q x.B.length c] ++ D) t := by rw [← e]; exact h
  rw [e]
  exact Blk.setCells [.slice q' b.length c'] (A.length + 5) w _ _ _ h2 (by simp) rfl
end
/-- A vote is changed: in the list, and in the state. -/
theorem vote_set (s : Ste) (x : Vot) (k : Int) (hx : x.S = k) : (Rise.add vkey ilt ⟨k, 0, 0, 0, 0, []⟩ s.votes).set (Rise.place vkey ilt k s.votes) x = Rise.upd vkey ilt x s.votes :=
  (Rise.upd_set (key := vkey) (lt := ilt) ⟨k, 0, 0, 0, 0, []⟩ x hx s.votes).symm
theorem vote_was (s : Ste) (k : Int) : (Rise.add vkey ilt ⟨k, 0, 0, 0, 0, []⟩ s.votes)[Rise.place vkey ilt k s.votes]? = some (s.was k) :=
  Rise.add_at (key := vkey) (lt := ilt) ⟨k, 0, 0, 0, 0, []⟩ s.votes
end
end Go.Proofs.YtokpabkcaofahaaGreat
