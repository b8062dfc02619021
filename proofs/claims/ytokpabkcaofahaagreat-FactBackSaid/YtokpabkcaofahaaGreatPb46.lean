/-
  A vote in its row: where it lies, what a change of it leaves of the object.
  The program's vote: a promise, an acceptance.
  The program's do: any fact that may be.
-/
import Derived.Test.YtokpabkcaofahaaGreatPb45
import Derived.Deep.RegionLaw
namespace Go.Proofs.YtokpabkcaofahaaGreat
section
set_option linter.unusedSimpArgs false
set_option linter.unusedVariables false
open Go.RowKit Sha Fct
theorem good_chg {V : Type} {S : Shp V} {w w' : World} {g : Nat} {cs : List Value} {x : V} {q : Option Addr} {c : Nat} (h : S.Good w x q c) (hu : U8 w q (S.byt x)) (hb : Blk w g cs 62) (hc : Chg (fun k => k = g) w w') : S.Good w' x q c ∧ U8 w' q (S.byt x) := by
  have h8 : ∀ g2 cs2, Blk w g2 cs2 5 → Blk w' g2 cs2 5 := fun g2 cs2 hk => hc.blk hk fun e => by
    subst e
    exact absurd (blk_ty hk hb) (by decide)
  exact ⟨good_blk h hu h8, hu.on h8⟩
/-- Where a vote lies: behind what, ahead of what. -/
structure VRow (w : World) (B gv cap pl : Nat) (zs : List (Hd Vot)) (A D : List Value) : Prop where
  lt : pl < zs.length
  lo : B ≤ gv
  c : zs.length ≤ cap
  m : cap ≤ maxLen
  eA : A = (zs.take pl).flatMap sV.row
  al : A.length = pl * 6
  eD : ∃ rest, D = (zs.drop (pl + 1)).flatMap sV.row ++ rest ∧ (zs.flatMap sV.row ++ rest).length = cap * 6
  ok : ∀ z ∈ zs, sV.ok z.1
  blk : Blk w gv (A ++ sV.row (zs.getD pl (⟨0, 0, 0, 0, 0, []⟩, none, 0)) ++ D) 62
  good : ∀ z ∈ zs, sV.Good w z.1 z.2.1 z.2.2 ∧ U8 w z.2.1 (sV.byt z.1)
theorem VRow.of {w : World} {B gv cap pl : Nat} {zs : List (Hd Vot)} (h : Rws sV 62 w B (.slice (some ⟨gv, 0, none⟩) zs.length cap) zs) (hp : pl < zs.length) : ∃ A D, VRow w B gv cap pl zs A D := by
  obtain ⟨g2, cap2, rest, hv, h1, h2, h3, hb, hA, hl2⟩ := h.mid pl hp
  obtain ⟨rfl, rfl⟩ : gv = g2 ∧ cap = cap2 := by injection hv with e1 e2 e3; injection e1 with e1; injection e1 with e1; exact ⟨e1, e3⟩
  exact ⟨_, _, hp, h1, h2, h3, rfl, hA, ⟨rest, rfl, hl2⟩, h.ok, by rw [List.getD_eq_getElem?_getD, List.getElem?_eq_getElem hp]; exact hb, h.good⟩
theorem VRow.below {w w' : World} {B gv cap pl : Nat} {zs : List (Hd Vot)} {A D : List Value} (h : VRow w B gv cap pl zs A D) (hb : Below w.heap.size w w') : VRow w' B gv cap pl zs A D :=
  { h with blk := h.blk.below hb h.blk.lt, good := fun z hz => ⟨(h.good z hz).1.below hb, (h.good z hz).2.below hb⟩ }
/-- The vote is another. -/
theorem VRow.set {w w' : World} {B gv cap pl : Nat} {zs : List (Hd Vot)} {A D : List Value} (h : VRow w B gv cap pl zs A D) (hc : Chg (fun k => k = gv) w w') (y : Hd Vot) (hb : Blk w' gv (A ++ sV.row y ++ D) 62) (hy : sV.Good w' y.1 y.2.1 y.2.2 ∧ U8 w' y.2.1 (sV.byt y.1)) :
    Rws sV 62 w' B (.slice (some ⟨gv, 0, none⟩) zs.length cap) (zs.set pl y) := by
  obtain ⟨rest, hD, hl⟩ := h.eD
  refine Rws.setAt h.lt y h.lo h.c h.m ?_ h.ok hl (fun z hz => good_chg (h.good z hz).1 (h.good z hz).2 h.blk hc) hy
  rw [← hD, ← h.eA]; exact hb
/-- The votes' row changes where it lies. -/
theorem StO.reV {w w' : World} {B g : Nat} {s : Ste} {r : Rows9} (h : StO w B g s r) (hc : Chg (fun k => r.vv.ownBlock = some k) w w') {zs : List (Hd Vot)} (hr : Rws sV 62 w' B r.vv zs) :
    StO w' B g { s with votes := zs.map (·.1) } { r with yv := zs } ∧ Chg (fun k => Own9 w B g k ∨ False) w w' := by
  have hno : ∀ k cs fz t, w.heap[k]? = some (.cells cs t fz) → t ≠ 62 → ¬ (r.vv.ownBlock = some k) := by
    rintro k cs fz t hk ht e
    obtain ⟨c2, f2, h2⟩ := RowTy.of h.v.own k e
    rw [hk] at h2; simp at h2; exact ht h2.2.1
  refine ⟨⟨hc.blk h.blk (hno _ _ _ _ h.blk (by decide)), h.lo, h.b.chg hc (fun k cs fz t hk ht => hno k cs fz t hk (by rcases ht with rfl | rfl <;> decide)), h.be, h.k.chg hc (fun k cs fz t hk ht => hno k cs fz t hk (by rcases ht with rfl | rfl <;> decide)), h.ke,
    h.h.chg hc (fun k cs fz t hk ht => hno k cs fz t hk (by rcases ht with rfl | rfl <;> decide)), h.he, hr, rfl, h.d.chg hc (fun k cs fz t hk ht => hno k cs fz t hk (by rcases ht with rfl | rfl <;> decide)), h.de⟩, hc.mono fun k _ e => ?_⟩
  obtain ⟨c2, f2, h2⟩ := RowTy.of h.v.own k e
  exact Or.inl (Or.inr ⟨h.v.lo e, c2, _, f2, h2, by unfold rowT; simp⟩)
theorem load_vbal {w : World} {gv o : Nat} {a b : Int} (h : w.rangeAt gv o [i64c a, i64c b]) : (loadOp 23 (.pointer (some ⟨gv, o, none⟩))).run Tryz.prog w = .ok (.value (.agg #[.int .i64 a, .int .i64 b])) w :=
  run_loadOp (run_loadAt_mid w gv o 23 [.int .i64 a, .int .i64 b] _ h Tryz.underlying23 rfl (by rw [bal_size]; rfl))
/-- A vote's ballot is another. -/
theorem store_vP {w : World} {gv : Nat} {A D : List Value} {x : Vot} {q : Option Addr} {c : Nat} (h : Blk w gv (A ++ vcells x q c ++ D) 62) (N O : Int) :
    (storeOp 23 (.pointer (some ⟨gv, A.length + 1, none⟩)) (.agg #[.int .i64 N, .int .i64 O])).run Tryz.prog w = .ok .skip (w.setCells gv (A.length + 1) [i64c N, i64c O]) := by
  have e : A ++ vcells x q c ++ D = (A ++ [i64c x.S]) ++ [i64c x.PN, i64c x.PO] ++ ([i64c x.AN, i64c x.AO, .slice q x.B.length c] ++ D) := by unfold vcells; simp
  rw [e] at h
  have h2 := run_storeMid (P := Tryz.prog) (t := 23) (cs := [i64c N, i64c O]) h rfl (by rw [bal_size]; rfl) (by intro v hv; simp at hv; rcases hv with rfl | rfl <;> rfl)
  simp only [List.length_append, List.length_cons, List.length_nil, Nat.zero_add, Nat.reduceAdd] at h2
  exact h2
theorem store_vA {w : World} {gv : Nat} {A D : List Value} {x : Vot} {q : Option Addr} {c : Nat} (h : Blk w gv (A ++ vcells x q c ++ D) 62) (N O : Int) :
    (storeOp 23 (.pointer (some ⟨gv, A.length + 3, none⟩)) (.agg #[.int .i64 N, .int .i64 O])).run Tryz.prog w = .ok .skip (w.setCells gv (A.length + 3) [i64c N, i64c O]) := by
  have e : A ++ vcells x q c ++ D = (A ++ [i64c x.S, i64c x.PN, i64c x.PO]) ++ [i64c x.AN, i64c x.AO] ++ ([.slice q x.B.length c] ++ D) := by unfold vcells; simp
  rw [e] at h
  have h2 := run_storeMid (P := Tryz.prog) (t := 23) (cs := [i64c N, i64c O]) h rfl (by rw [bal_size]; rfl) (by intro v hv; simp at hv; rcases hv with rfl | rfl <;> rfl)
  simp only [List.length_append, List.length_cons, List.length_nil, Nat.zero_add, Nat.reduceAdd] at h2
  exact h2
theorem cell_vD {w : World} {gv : Nat} {A D : List Value} {x : Vot} {q : Option Addr} {c : Nat} (h : Blk w gv (A ++ vcells x q c ++ D) 62) : w.cell? ⟨gv, A.length + 5, none⟩ = some (.slice q x.B.length c) := by
  rw [h.cell, List.append_assoc, List.getElem?_append_right (by omega), Nat.add_sub_cancel_left]; rfl
theorem vote_back (s : Ste) (hs : Sound s) (f : Fac) (hf : f.K = 7 ∨ f.K = 8) (hN : more f.N f.O 0 0 = true) (hm : more (s.was f.S).PN (s.was f.S).PO f.N f.O = true) : ({ s with votes := Rise.add vkey ilt ⟨f.S, 0, 0, 0, 0, []⟩ s.votes } : Ste) = s.on f := by
  have h1 : s.on f = s := by
    rw [on_vote s hf]
    rcases hf with e | e
    · exact vote_7n s e (more_asymm hm)
    · exact vote_8n s (by omega) hm
  have h2 : Rise.add vkey ilt ⟨f.S, 0, 0, 0, 0, []⟩ s.votes = s.votes := by
    obtain ⟨_, h3 | h3⟩ := was_ok hs f.S
    · rw [h3.2] at hm
      have := more_asymm hN
      rw [this] at hm; cases hm
    · exact Rise.add_of (key := vkey) (lt := ilt) (x := ⟨f.S, 0, 0, 0, 0, []⟩) h3.1
  rw [h1, h2]
theorem vote_new (s : Ste) (hs : Sound s) (f : Fac) (hf : f.K = 7) (hN : more f.N f.O 0 0 = true) (hm : more (s.was f.S).PN (s.was f.S).PO f.N f.O = false) : s.on f = { s with votes := Rise.upd vkey ilt ⟨f.S, f.N, f.O, (s.was f.S).AN, (s.was f.S).AO, (s.was f.S).B⟩ s.votes } := by
  rw [on_vote s (Or.inl hf)]
  cases h : more f.N f.O (s.was f.S).PN (s.was f.S).PO with
  | true => exact vote_7 s hf h
  | false =>
    rw [vote_7n s hf h]
    have he : f.N = (s.was f.S).PN ∧ f.O = (s.was f.S).PO := by simp [more] at h hm; omega
    obtain ⟨h2, h3 | h3⟩ := was_ok hs f.S
    · rw [h3.2] at he
      simp [more] at hN he; omega
    · have e1 : (⟨f.S, f.N, f.O, (s.was f.S).AN, (s.was f.S).AO, (s.was f.S).B⟩ : Vot) = s.was f.S := by
        rw [he.1, he.2]
        obtain ⟨v, hv⟩ : ∃ v, v = s.was f.S := ⟨_, rfl⟩
        rw [← hv] at h2 ⊢
        cases v
        simp only at h2
        rw [h2]
      rw [e1, Rise.upd_same ilt_ord (key := vkey) (x := s.was f.S) (by rw [show vkey (s.was f.S) = f.S from h2]; exact h3.1)]
theorem vote_acc (s : Ste) (f : Fac) (hf : f.K = 8) (hm : more (s.was f.S).PN (s.was f.S).PO f.N f.O = false) : s.on f = { s with votes := Rise.upd vkey ilt ⟨f.S, f.N, f.O, f.N, f.O, f.B⟩ s.votes } := by
  rw [on_vote s (Or.inr hf)]; exact vote_8 s (by omega) hm
end
section
set_option linter.unusedSimpArgs false
set_option linter.unusedVariables false
open Go.RowKit Sha Fct
attribute [local go_sem ↓] execOp_boxFact execOp_loadBal execOp_storeBal
/-- Behind a new vote's laying: the object, the fact. -/
structure VoB (w wx : World) (B g gf : Nat) (s : Ste) (r : Rows9) (f : Fac) (q : Option Addr) (c gv cap : Nat) (zs : List (Hd Vot)) : Prop where
  so : StO wx B g { s with votes := Rise.add vkey ilt ⟨f.S, 0, 0, 0, 0, []⟩ s.votes } { r with vv := .slice (some ⟨gv, 0, none⟩) zs.length cap, yv := zs }
  fb : Blk wx gf (fcells f q c) 28
  chg : Chg (fun k => Own9 w B g k ∨ False) w wx
  pl : Rise.place vkey ilt f.S s.votes < zs.length
theorem voB_of {w w1 w3 : World} {B g gf : Nat} {s : Ste} {r : Rows9} {f : Fac} {q : Option Addr} {c : Nat} {v' : Value} {zs : List (Hd Vot)} (h : StO w B g s r) (hb : Below w.heap.size w w1) (hf : Blk w1 gf (fcells f q c) 28)
    (hr : Rws sV 62 w3 B v' zs) (hz : zs.map (·.1) = Rise.add vkey ilt ⟨f.S, 0, 0, 0, 0, []⟩ (r.yv.map (·.1))) (hg : w1.grownBy w3 r.vv.ownBlock) :
    w3.cell? ⟨g, 5, none⟩ = some r.vv ∧ w3.frozen? ⟨g, 5, none⟩ = false ∧ ∃ gv cap, v' = .slice (some ⟨gv, 0, none⟩) zs.length cap ∧ VoB w (w3.setCell ⟨g, 5, none⟩ v') B g gf s r f q c gv cap zs := by
  obtain ⟨h1, h2, h3, h4, h5⟩ := plcS_V h hb hr hg
  rw [hz, h.ve] at h3
  have hlt : Rise.place vkey ilt f.S s.votes < zs.length := by
    have := vote_was s f.S
    rw [← h.ve, ← hz, List.getElem?_map] at this
    rw [h.ve] at this
    rcases Nat.lt_or_ge (Rise.place vkey ilt f.S s.votes) zs.length with h6 | h6
    · exact h6
    · rw [List.getElem?_eq_none h6] at this; cases this
  obtain ⟨gv, cap, rest, hv, _⟩ := own_whole hr.own (by omega)
  exact ⟨h1, h2, gv, cap, hv, by subst hv; exact ⟨h3, h5 hf, h4, hlt⟩⟩
/-- The end of a vote that nothing became of. -/
theorem vote_end0 {w wc W1 : World} {B g gf : Nat} {s : Ste} {r : Rows9} {f : Fac} {q : Option Addr} {c gv cap : Nat} {zs : List (Hd Vot)} (h : VoB w wc B g gf s r f q c gv cap zs) (hb : Below wc.heap.size wc W1) (hs : Sound s) (hf : f.K = 7 ∨ f.K = 8) (hN : more f.N f.O 0 0 = true) (hm : more (s.was f.S).PN (s.was f.S).PO f.N f.O = true) :
    DoP w B g (s.on f) (.returned (.tuple #[])) W1 := by
  have h1 := h.so.below hb
  rw [vote_back s hs f hf hN hm] at h1
  exact ⟨rfl, _, h1, h.chg.grown (below_grown hb none) fun k hk => by cases hk⟩
/-- .. of a vote that is another. -/
theorem vote_end1 {w wc W1 We : World} {B g gf : Nat} {s : Ste} {r : Rows9} {f : Fac} {q : Option Addr} {c gv cap pl : Nat} {zs : List (Hd Vot)} {A D : List Value} (h : VoB w wc B g gf s r f q c gv cap zs) (hb : Below wc.heap.size wc W1) (hvr : VRow wc B gv cap pl zs A D) (hpl : pl = Rise.place vkey ilt f.S s.votes)
    (hc : Chg (fun k => k = gv) W1 We) (y : Hd Vot) (hy : y.1.S = f.S) (hbk : Blk We gv (A ++ vcells y.1 y.2.1 y.2.2 ++ D) 62) (hg : sV.Good We y.1 y.2.1 y.2.2 ∧ U8 We y.2.1 y.1.B) (hon : s.on f = { s with votes := Rise.upd vkey ilt y.1 s.votes }) :
    DoP w B g (s.on f) (.returned (.tuple #[])) We := by
  have h1 := h.so.below hb
  have h2 := (hvr.below hb).set hc y hbk hg
  obtain ⟨h3, h4⟩ := h1.reV (hc.mono fun k _ e => by subst e; rfl) h2
  have e1 : (zs.set pl y).map (·.1) = Rise.upd vkey ilt y.1 s.votes := by
    have h5 : zs.map (·.1) = _ := h.so.ve
    rw [List.map_set, h5, hpl]
    exact vote_set s y.1 f.S hy
  rw [hon, ← e1]
  exact ⟨rfl, _, h3, chg9_trans (h.chg.grown (below_grown hb none) fun k hk => by cases hk) h4⟩
/-- .. of one that is accepted: behind the copy of its bytes. -/
theorem vote_end8 {w wc wq w5 w6 : World} {B g gf : Nat} {s : Ste} {r : Rows9} {f : Fac} {q q6 xq : Option Addr} {c gv cap pl c6 nb xc : Nat} {zs : List (Hd Vot)} {A D : List Value} {x : Vot} (h : VoB w wc B g gf s r f q c gv cap zs) (hb : Below wc.heap.size wc wq) (hvr : VRow wc B gv cap pl zs A D) (hpl : pl = Rise.place vkey ilt f.S s.votes)
    (hc5 : Chg (fun k => k = gv) wq w5) (k5 : Blk w5 gv (A ++ vcells ⟨x.S, f.N, f.O, x.AN, x.AO, x.B⟩ xq xc ++ D) 62) (f5 : Blk w5 gf (fcells f q c) 28) (hx : x.S = f.S) (hfo : f.ok) (h6 : Below w5.heap.size w5 w6) (hc6 : Cpy w6 f.B q6 c6) (hnb : nb = f.B.length)
    (hon : s.on f = { s with votes := Rise.upd vkey ilt ⟨f.S, f.N, f.O, f.N, f.O, f.B⟩ s.votes }) :
    ∃ w7, (storeOp 23 (.pointer (some ⟨gv, pl * 6 + 3, none⟩)) (.agg #[.int .i64 f.N, .int .i64 f.O])).run Tryz.prog w6 = .ok .skip w7 ∧ w7.cell? ⟨gv, pl * 6 + 5, none⟩ = some (.slice xq x.B.length xc) ∧ w7.frozen? ⟨gv, pl * 6 + 5, none⟩ = false ∧
      (loadOp 23 (.pointer (some ⟨gf, 3, none⟩))).run Tryz.prog w6 = .ok (.value (.agg #[.int .i64 f.N, .int .i64 f.O])) w6 ∧ DoP w B g (s.on f) (.returned (.tuple #[])) (w7.setCell ⟨gv, pl * 6 + 5, none⟩ (.slice q6 nb c6)) := by
  have k6 := k5.below h6 k5.lt
  have s6 := store_vA k6 f.N f.O
  have k7 := vote_A (⟨x.S, f.N, f.O, x.AN, x.AO, x.B⟩ : Vot) f.N f.O k6
  have k8 := vote_D _ f.B q6 c6 k7
  have c7 := cell_vD k7
  have z7 := k7.free (A.length + 5)
  rw [hvr.al] at s6 k7 k8 c7 z7
  have hl := load_fbal (o := 0) (f5.below h6 f5.lt).range
  rw [Nat.zero_add] at hl
  have hg6 : Chg (fun k => k = gv) w6 ((w6.setCells gv (pl * 6 + 3) [i64c f.N, i64c f.O]).setCell ⟨gv, pl * 6 + 5, none⟩ (.slice q6 f.B.length c6)) :=
    (((Chg.refl _ w6).grown (setCells_grown w6 gv _ _) fun k hk _ => by cases hk; rfl)).grown (setCell_grown _ gv _ _) fun k hk _ => by cases hk; rfl
  have hce : Chg (fun k => k = gv) wq ((w6.setCells gv (pl * 6 + 3) [i64c f.N, i64c f.O]).setCell ⟨gv, pl * 6 + 5, none⟩ (.slice q6 f.B.length c6)) :=
    ((hc5.grown (below_grown h6 none) fun k hk => by cases hk).grown (setCells_grown w6 gv _ _) fun k hk _ => by cases hk; rfl).grown (setCell_grown _ gv _ _) fun k hk _ => by cases hk; rfl
  have hgd : sV.Good w6 (⟨x.S, f.N, f.O, f.N, f.O, f.B⟩ : Vot) q6 c6 := ⟨⟨by rw [hx]; exact hfo.S, hfo.N, hfo.O, hfo.N, hfo.O, hfo.B⟩, hc6.at_, hc6.le, hc6.max, hc6.nil⟩
  subst hnb
  refine ⟨_, s6, c7, z7, hl, ?_⟩
  exact vote_end1 h hb hvr hpl hce (⟨x.S, f.N, f.O, f.N, f.O, f.B⟩, q6, c6) hx k8 (good_chg hgd hc6.u8 k6 hg6) (by rw [hon, hx])
theorem good_lowW {w W : World} {B g : Nat} {x : Fac} {q : Option Addr} {c : Nat} {X : Nat → Prop} (h : sF.Good w x q c) (hq : x.B = [] ∨ ∀ a, q = some a → a.block < B) (hB : B ≤ w.heap.size) (hg : B ≤ g) (hX : ∀ k, X k → B ≤ k) (hc : Chg (fun k => Own9 w B g k ∨ X k) w W) : sF.Good W x q c := by
  refine ⟨h.ok, ?_, h.le, h.max, h.nil⟩
  rcases h.at_ with h1 | ⟨b, off, rfl, h2⟩
  · exact Or.inl h1
  · rcases hq with h3 | h3
    · left; rw [show sF.byt x = x.B from rfl, h3]; rfl
    · refine Or.inr ⟨b, off, rfl, fun i u hi => ?_⟩
      have hb := h3 _ rfl
      simp only at hb
      have h4 := hc.block b (by omega) (fun e => by
        rcases e with (e | ⟨e, _⟩) | e
        · omega
        · omega
        · have := hX _ e; omega)
      exact (World.cell?_of_block (w := w) (a := ⟨b, off + i, none⟩) h4).trans (h2 i u hi)
set_option maxRecDepth 100000 in
set_option maxHeartbeats 4000000 in
theorem vote_any (w : World) (B g : Nat) (s : Ste) (r : Rows9) (f : Fac) (q : Option Addr) (c : Nat) (h : StO w B g s r) (hf : f.K = 7 ∨ f.K = 8) (hg : sF.Good w f q c) (hq : f.B = [] ∨ ∀ a, q = some a → a.block < B) (hbl : f.B.length ≤ 1000000) (hN : more f.N f.O 0 0 = true) (hs : Sound s) (hl : Lens r) (hB : B ≤ w.heap.size) :
    Calls Tryz.prog 132 #[.pointer (some ⟨g, 0, none⟩), .agg (fcells f q c).toArray] w (DoP w B g (s.on f)) := by
  obtain ⟨pv, cv, hvv, _⟩ := h.v.told
  obtain ⟨w1, hb⟩ := fbx9 w f q c
  have bx := hb.b1
  have cS := hb.S
  have hk1 := hb.k1
  obtain ⟨gf, hgf⟩ : ∃ b, b = w.heap.size := ⟨_, rfl⟩
  rw [← hgf] at bx cS hk1
  clear hgf
  have v1 : w1.cell? ⟨g, 5, none⟩ = some (.slice pv r.yv.length cv) := by rw [(h.below hb.below).blk.cell 5, ← hvv]; rfl
  have mk := fun w => makeOV f.S w
  have HPL := Lib.hid (show Calls Tryz.prog 159 #[.slice pv r.yv.length cv, .agg (vcells ⟨f.S, 0, 0, 0, 0, []⟩ none 0).toArray, .func (.func 160) #[] #[]] w1.drew (PlcV w1.drew B r.vv (r.yv.map (·.1)) ⟨f.S, 0, 0, 0, 0, []⟩) by
    have hbd := hb.below.drew
    obtain ⟨gd, u8⟩ := good0 (S := sV) w1.drew (x := (⟨f.S, 0, 0, 0, 0, []⟩ : Vot)) ⟨hg.ok.S, show fit 0 by unfold fit; omega, show fit 0 by unfold fit; omega, show fit 0 by unfold fit; omega, show fit 0 by unfold fit; omega, by simp⟩ rfl
    have h2 := place_V w1.drew B r.vv r.yv (h.below hbd).v (by rw [h.ve]; exact hs.votesUp) ⟨f.S, 0, 0, 0, 0, []⟩ none 0 gd u8 hl.v (Nat.le_trans hB hbd.size)
    rw [hvv] at h2 ⊢
    exact h2)
  have HH := Lib.hid h
  have HB1 := Lib.hid hb.below
  have HK1 := Lib.hid hk1
  have HVV := Lib.hid hvv
  have HVE := Lib.hid h.ve
  obtain ⟨pl, hpl⟩ : ∃ n, n = Rise.place vkey ilt f.S s.votes := ⟨_, rfl⟩
  have HPP := Lib.hid hpl
  obtain ⟨nv, hnv⟩ : ∃ n, n = r.yv.length := ⟨_, rfl⟩
  rw [← hnv] at v1 HPL
  have HNV := Lib.hid hnv
  have HF := Lib.hid hf
  have HG := Lib.hid hg
  have HQ := Lib.hid hq
  have HBL := Lib.hid hbl
  have HN := Lib.hid hN
  have HS := Lib.hid hs
  have HBW := Lib.hid hB
  clear hb h hk1 hvv hpl hnv hf hg hq hbl hN hs hl hB
  go_enter Tryz.func132, Tryz.ntmps132
  go_upto_region 2 with fail
  go_cut [4] (fun s4 wx => ∃ gv cap zs, s4 = .int .i64 pl ∧ Hid (VoB w wx B g gf s r f q c gv cap zs))
  case first =>
    go_region_law ((first
      | (go_simp; go_at_call 159; refine HPL.out.mono ?_; rintro e w3 ⟨v', zs, rfl, hr3, hz3, hg3, _, _⟩; (obtain ⟨v3, f3, gv, cap, rfl, hVB⟩ := voB_of HH.out HB1.out.drew HK1.out hr3 hz3 hg3); (rw [HVV.out] at v3); (have HVB := Lib.hid hVB); clear hVB hr3 hz3 hg3; (rw [HVE.out, ← HPP.out]); generalize hzl : zs.length = n5 at *)))
    all_goals (go_wp2_with fail; go_meet)
    all_goals exact ⟨gv, cap, zs, rfl, HVB⟩
  case rest =>
    obtain ⟨gv, cap, zs, rfl, HVB⟩ := hcut
    have hso := HVB.out.so
    have hpl2 : pl < zs.length := by rw [HPP.out]; exact HVB.out.pl
    obtain ⟨A, D, hvr⟩ := VRow.of hso.v hpl2
    obtain ⟨⟨x, xq, xc⟩, hzz⟩ : ∃ z : Hd Vot, z = zs.getD pl (⟨0, 0, 0, 0, 0, []⟩, none, 0) := ⟨_, rfl⟩
    have hzp : zs[pl]? = some (x, xq, xc) := by rw [hzz, List.getD_eq_getElem?_getD, List.getElem?_eq_getElem hpl2]; rfl
    have hz : x = s.was f.S := by
      have h1 := vote_was s f.S
      have h2 : zs.map (·.1) = Rise.add vkey ilt ⟨f.S, 0, 0, 0, 0, []⟩ s.votes := hso.ve
      rw [← h2, ← HPP.out, List.getElem?_map, hzp] at h1
      exact Option.some.inj h1
    have hbk : Blk wc gv (A ++ vcells x xq xc ++ D) 62 := by have h1 := hvr.blk; rw [← hzz] at h1; exact h1
    have hrP : wc.rangeAt gv (pl * 6 + 1) [i64c x.PN, i64c x.PO] := by
      have e : A ++ vcells x xq xc ++ D = (A ++ [i64c x.S]) ++ [i64c x.PN, i64c x.PO] ++ ([i64c x.AN, i64c x.AO, .slice xq x.B.length xc] ++ D) := by unfold vcells; simp
      exact range_mid (by rw [← e]; exact hbk) (by rw [List.length_append, hvr.al]; rfl)
    have c5 : wc.cell? ⟨g, 5, none⟩ = some (.slice (some ⟨gv, 0, none⟩) zs.length cap) := hso.blk.cell 5
    obtain ⟨n5, hn5⟩ : ∃ n, n = zs.length := ⟨_, rfl⟩
    have i1 : (0 : Int) ≤ (pl : Int) := by omega
    have i2 : (pl : Int) < (n5 : Int) := by omega
    rw [← hn5] at c5
    have HX := Lib.hid hz
    have HVR := Lib.hid hvr
    have HBK := Lib.hid hbk
    have HRP := Lib.hid hrP
    have HZP := Lib.hid hzp
    have HN5 := Lib.hid hn5
    have HPL2 := Lib.hid hpl2
    clear hso hpl2 hvr hzz hzp hz hbk hrP hn5 bx cS v1 mk HPL
    go_wp2_with fail
    obtain ⟨I, W, hC⟩ := cls_of wc
    have hne : Nonempty I := hC.ne
    have lP : ∀ n, (loadOp 23 (.pointer (some ⟨gv, pl * 6 + 1, none⟩))).run Tryz.prog (W n) = .ok (.value (.agg #[.int .i64 x.PN, .int .i64 x.PO])) (W n) := fun n => load_vbal (range_below HRP.out (hC.back n))
    have lF : ∀ n, (loadOp 23 (.pointer (some ⟨gf, 3, none⟩))).run Tryz.prog (W n) = .ok (.value (.agg #[.int .i64 f.N, .int .i64 f.O])) (W n) := fun n => by
      have h1 := load_fbal (o := 0) (HVB.out.fb.below (hC.back n) HVB.out.fb.lt).range
      rw [Nat.zero_add] at h1
      exact h1
    have QB := Lib.hid (fun n => (ballots_any f.N f.O x.PN x.PO (W n)).mono (R' := fun e w'' => e = .returned (.int .i64 (ordL f.N f.O x.PN x.PO)) ∧ ∃ m, w'' = W m) fun e w'' ⟨he, hb⟩ => ⟨he, hC.all _ ((hC.back n).trans (hb.mono (hC.back n).size))⟩)
    obtain ⟨od, hod⟩ : ∃ n, n = ordL f.N f.O x.PN x.PO := ⟨_, rfl⟩
    rw [← hod] at QB
    have HOD := Lib.hid (show od < 0 ↔ more x.PN x.PO f.N f.O = true by rw [hod]; exact ordL_neg ..)
    have HC := Lib.hid hC
    clear hod hC
    refine wp_region_cls W (by kernel_rfl) (by kernel_rfl) HC.out.one ?_
    repeat go_big_quiet_step ((go_at_call 108; exact QB.out _))
    refine wpQuiet_nil ?_
    rintro _ ⟨nq, rfl⟩
    have HBQ := Lib.hid (HC.out.back nq)
    have hlF := lF nq
    obtain ⟨wq, hwq⟩ : ∃ v, v = W nq := ⟨_, rfl⟩
    rw [← hwq] at HBQ hlF ⊢
    clear hwq lP lF QB c5 hne HC HRP
    cases hm : more x.PN x.PO f.N f.O with
    | true =>
      have t1 : decide (od < 0) = true := decide_eq_true (HOD.out.2 hm)
      have HE := Lib.hid (vote_end0 HVB.out HBQ.out HS.out HF.out HN.out (by rw [← HX.out]; exact hm))
      clear hm
      rw [t1]
      clear t1
      go_wp2_with fail
      go_end0
      exact HE.out
    | false =>
      have t1 : decide (od < 0) = false := decide_eq_false fun h => by rw [HOD.out.1 h] at hm; cases hm
      have HM := Lib.hid (show more (s.was f.S).PN (s.was f.S).PO f.N f.O = false by rw [← HX.out]; exact hm)
      clear hm HOD
      rw [t1]
      clear t1
      have hbq := HBK.out.below HBQ.out HBK.out.lt
      have st5 := store_vP hbq f.N f.O
      have k5 := vote_P x f.N f.O hbq
      rw [HVR.out.al] at st5 k5
      have hc5 : Chg (fun k => k = gv) wq (wq.setCells gv (pl * 6 + 1) [i64c f.N, i64c f.O]) := (Chg.refl _ wq).grown (setCells_grown wq gv _ _) fun k hk _ => by cases hk; rfl
      have fq := HVB.out.fb.below HBQ.out HVB.out.fb.lt
      have hgf : gf ≠ gv := fun e => by subst e; exact absurd (blk_ty fq hbq) (by decide)
      have f5 := hc5.blk fq hgf
      obtain ⟨w5, hw5⟩ : ∃ v, v = wq.setCells gv (pl * 6 + 1) [i64c f.N, i64c f.O] := ⟨_, rfl⟩
      rw [← hw5] at st5 k5 hc5 f5
      have cK5 : w5.cell? ⟨gf, 0, none⟩ = some (i64c f.K) := (f5.cell 0).trans (fcells_K f q c)
      have HGX := Lib.hid (show sV.Good wq x xq xc ∧ U8 wq xq x.B from by
        have h1 := (HVR.out.below HBQ.out).good (x, xq, xc) (List.mem_of_getElem? HZP.out)
        exact h1)
      have hg5 := good_chg HGX.out.1 HGX.out.2 hbq hc5
      have HFS := Lib.hid (show x.S = f.S by rw [HX.out]; exact (was_ok HS.out f.S).1)
      clear hw5 fq
      rcases HF.out with hk | hk
      · have HE := Lib.hid (vote_end1 HVB.out HBQ.out HVR.out HPP.out hc5 (⟨x.S, f.N, f.O, x.AN, x.AO, x.B⟩, xq, xc) HFS.out k5 ⟨⟨⟨hg5.1.ok.S, HG.out.ok.N, HG.out.ok.O, hg5.1.ok.AN, hg5.1.ok.AO, hg5.1.ok.B⟩, hg5.1.at_, hg5.1.le, hg5.1.max, hg5.1.nil⟩, hg5.2⟩ (by rw [vote_new s HS.out f hk HN.out HM.out, ← HX.out, HFS.out]))
        rw [hk] at cK5
        clear hbq k5 hc5 f5 hg5 hk
        go_wp2_with fail
        go_end0
        exact HE.out
      · have HON := Lib.hid (show s.on f = { s with votes := Rise.upd vkey ilt ⟨f.S, f.N, f.O, f.N, f.O, f.B⟩ s.votes } from vote_acc s f hk HM.out)
        have hBw := HBW.out
        have hlo := HVB.out.so.lo
        have g1 := good_lowW HG.out HQ.out hBw hlo (fun k e => e.elim) HVB.out.chg
        have g2 := g1.below HBQ.out
        have g3 := good_lowW (B := B) (g := g) (X := fun k => k = gv) g2 HQ.out (Nat.le_trans (Nat.le_trans hBw HVB.out.chg.size) HBQ.out.size) hlo (fun k e => by subst e; exact HVR.out.lo) (hc5.mono fun k _ e => Or.inr e)
        obtain ⟨nb, hnb⟩ : ∃ n, n = f.B.length := ⟨_, rfl⟩
        have c37 : w5.cell? ⟨gf, 37, none⟩ = some (.slice q nb c) := by rw [hnb]; exact (f5.cell 37).trans (fcells_B HG.out.ok.len q c)
        have HCL := Lib.hid (clone8_any f.B nb q c w5.drew hnb.symm g3.at_ (by rw [hnb]; exact g3.le) g3.max g3.nil (by rw [hnb]; exact HBL.out))
        have hl5 : (loadOp 23 (.pointer (some ⟨gf, 3, none⟩))).run Tryz.prog w5.drew = .ok (.value (.agg #[.int .i64 f.N, .int .i64 f.O])) w5.drew := by
          have h1 := load_fbal (o := 0) (f5.below (Below.refl _ w5).drew f5.lt).range
          rw [Nat.zero_add] at h1
          exact h1
        have HEE := Lib.hid (fun w6 q6 c6 (h6 : Below w5.heap.size w5 w6) (hc6 : Cpy w6 f.B q6 c6) => vote_end8 HVB.out HBQ.out HVR.out HPP.out hc5 k5 f5 HFS.out HG.out.ok h6 hc6 hnb HON.out)
        obtain ⟨nx, hnx⟩ : ∃ n, n = x.B.length := ⟨_, rfl⟩
        rw [← hnx] at HEE
        rw [hk] at cK5
        clear hbq k5 hc5 f5 hg5 hk hBw hlo g1 g2 g3 hnb hnx
        go_wp2_with fail
        go_region_law ((go_simp; go_at_call 128; refine HCL.out.mono ?_; rintro e w6 ⟨q6, c6, rfl, hc6, hb6⟩; (obtain ⟨w7, st6, c7, z7, hl6, hE⟩ := HEE.out w6 q6 c6 ((Below.refl _ w5).drew.trans hb6) hc6); (have HE := Lib.hid hE); clear hE hb6 hc6))
        all_goals (
          go_wp2_with fail
          go_end0
          exact HE.out)
end
section
set_option linter.unusedSimpArgs false
set_option linter.unusedVariables false
open Go.RowKit Sha Fct
attribute [local go_sem ↓] execOp_boxFact execOp_loadFact
set_option maxRecDepth 100000 in
set_option maxHeartbeats 4000000 in
theorem do_vote (w : World) (B g : Nat) (s : Ste) (r : Rows9) (f : Fac) (q : Option Addr) (c : Nat) (h : StO w B g s r) (hf : f.K = 7 ∨ f.K = 8) (hg : sF.Good w f q c) (hq : f.B = [] ∨ ∀ a, q = some a → a.block < B) (hbl : f.B.length ≤ 1000000) (hN : more f.N f.O 0 0 = true) (hs : Sound s) (hl : Lens r) (hB : B ≤ w.heap.size) :
    Calls Tryz.prog 92 #[.pointer (some ⟨g, 0, none⟩), .agg (fcells f q c).toArray] w (DoP w B g (s.on f)) := by
  obtain ⟨w1, hb⟩ := fbx9 w f q c
  have bx := hb.b1
  have cK := hb.K
  have l1 := load_factB hb.k1 hg.ok.len
  have HR := Lib.hid (vote_any w1 B g s r f q c (h.below hb.below) hf (hg.below hb.below) hq hbl hN hs hl (Nat.le_trans hB hb.below.size))
  have HB := Lib.hid hb.below
  clear hb h hg hs hl hB hq hbl hN
  rcases hf with hk | hk
  · rw [hk] at cK
    clear hk
    go_enter Tryz.func92, Tryz.ntmps92
    go_wp2_with fail
    refine HR.out.mono ?_
    rintro e w2 hP
    have HP := Lib.hid (hP.from HB.out)
    obtain ⟨rfl, _⟩ := hP
    go_wp2_with fail
    go_end0
    exact HP.out
  · rw [hk] at cK
    clear hk
    go_enter Tryz.func92, Tryz.ntmps92
    go_wp2_with fail
    refine HR.out.mono ?_
    rintro e w2 hP
    have HP := Lib.hid (hP.from HB.out)
    obtain ⟨rfl, _⟩ := hP
    go_wp2_with fail
    go_end0
    exact HP.out
theorem do_any (w : World) (B g : Nat) (s : Ste) (r : Rows9) (f : Fac) (q : Option Addr) (c : Nat) (h : StO w B g s r) (hg : sF.Good w f q c) (hc : Fct.Can f) (hq : f.B = [] ∨ ∀ a, q = some a → a.block < B) (hs : Sound s) (hl : Lens r) (hB : B ≤ w.heap.size) :
    Calls Tryz.prog 92 #[.pointer (some ⟨g, 0, none⟩), .agg (fcells f q c).toArray] w (DoP w B g (s.on f)) := by
  have hd : idOk f.D := ⟨hg.ok.len, hg.ok.D⟩
  have hm : f.B.length ≤ 1000000 := by have := hc.most; split at this <;> omega
  rcases kinds hc.kind with e | e | e | e | e | e | e | e | e | e
  · exact do_born w B g s r f q c h e
  · exact do_boot w B g s r f q c h e
  · exact do_blob w B g s r f q c h e hg hd hm hs hl hB
  · exact do_refer w B g s r f q c h (Or.inl e) hg.ok hd hs hl hB
  · exact do_refer w B g s r f q c h (Or.inr e) hg.ok hd hs hl hB
  · exact do_settle w B g s r f q c h e hg.ok hd hs hl
  · exact do_vote w B g s r f q c h (Or.inl e) hg hq hm (more_zero (hc.ballot (Or.inl e)).1 (hc.ballot (Or.inl e)).2) hs hl hB
  · exact do_vote w B g s r f q c h (Or.inr e) hg hq hm (more_zero (hc.ballot (Or.inr e)).1 (hc.ballot (Or.inr e)).2) hs hl hB
  · exact do_decide w B g s r f q c h e hg hd hm hs hl hB
  · exact do_drop w B g s r f q c h e hg.ok hl
end
end Go.Proofs.YtokpabkcaofahaaGreat
