/-
  A caller that gathers what an iterator of pieces hands it: what it holds between two rounds, what a round leaves. No function of the program is named here.
-/
import Derived.Test.YtfjopbgnijfajaaFrF
import Derived.Test.YtfjopbgnijfajaaFrL
namespace Go.Proofs.Ytfjopbgnijfajaa
set_option linter.unusedSimpArgs false
set_option linter.unusedVariables false
open Go.RowKit Go.Shelf Sha
theorem grownBy_below {W W' : World} (h : Below W.heap.size W W') : W.grownBy W' none := ⟨h.os, h.tape, h.output, h.size, fun k hk _ => h.block k hk⟩
theorem keepsOthers_below {W W' : World} (h : Below W.heap.size W W') : KeepsOthers W W' := KeepsOthers.of_grownBy (grownBy_below h) (fun j o e => by cases e)
theorem boxed_below {W W' : World} {B : Nat} {t : TypeId} {v : Value} (h : Boxed W B t v) (hb : Below W.heap.size W W') : Boxed W' B t v := (hb.block B h.lt).trans h
theorem wpIn_cut2 {F : Fence} {m : Nat} {P : Program} {s : Code} {K : Act → World → Prop} {Q' : Exit → Act → World → Prop} {a : Act} {w : World} (R : Act → World → Prop)
    (rest : ∀ a' w', R a' w' → K a' w') (first : s.wpIn F m P (fun e a' w' => e = .normal ∧ R a' w') a w) : s.wpIn F m P (Exit.then K Q') a w :=
  Code.wpIn_mono (by rintro e a' w' ⟨rfl, h⟩; exact rest _ _ h) first
theorem RecO.kept {B : Nat} {w w' : World} {y : SHdr} {row : Option Nat} (h : RecO B w y) (hg : w.grownBy w' row) (hr : ∀ r, row = some r → ∃ o : Obj, w.heap[r]? = some o ∧ o.isCells = false) : RecO B w' y :=
  h.carry fun k c fz hh => by
    rw [hg.block k (Array.getElem?_eq_some_iff.1 hh).1 (fun e => ?_)]; exact hh
    obtain ⟨o, ho, hc⟩ := hr k e.symm
    rw [hh] at ho; cases ho; cases hc
theorem OwnS.kept {B : Nat} {w w' : World} {v : Value} {ys : List SHdr} {row : Option Nat} (h : OwnS B w v ys) (hg : w.grownBy w' row) (hr : ∀ r, row = some r → ∃ o : Obj, w.heap[r]? = some o ∧ o.isCells = false) : OwnS B w' v ys := by
  refine ⟨h.own.kept hg ?_, fun y hy => (h.good y hy).kept hg hr⟩
  rcases h.own.2 with ⟨rfl, _⟩ | ⟨g, cap, cur, rfl, _, hgb, _⟩
  · exact .inl rfl
  · refine .inr fun e => ?_
    obtain ⟨o, ho, hc⟩ := hr g (by rw [← e]; rfl)
    rw [hgb] at ho; cases ho; cases hc
theorem Ints8.kept {B : Nat} {w w' : World} {y : SHdr} {row : Option Nat} (h : Ints8 w (cellS y)) (hy : RecO B w y) (hg : w.grownBy w' row) (hr : ∀ r, row = some r → ∃ o : Obj, w.heap[r]? = some o ∧ o.isCells = false) : Ints8 w' (cellS y) := by
  refine h.carry fun g e => hg.block g (hy.own.lt g e).2 fun e' => ?_
  obtain ⟨o, ho, hc⟩ := hr g e'.symm
  rcases hy.own.2 with ⟨hv, _⟩ | ⟨g', cap, cur, hv, _, hgb, _⟩
  · rw [hv] at e; cases e
  · rw [hv] at e; cases e
    rw [hgb] at ho; cases ho; cases hc
theorem boxed_ne {W : World} {B k : Nat} {t e : TypeId} {u : Value} {c : Array Value} {fz : Nat × Nat} (h : Boxed W B t u) (hk : W.heap[k]? = some (Obj.cells c e fz)) (hte : t ≠ e) : k ≠ B := by
  rintro rfl
  rw [show W.heap[k]? = _ from h] at hk
  injection hk with hk; injection hk with _ ht
  exact hte ht
theorem RecO.setBox {B Bx : Nat} {w : World} {t : TypeId} {u : Value} {y : SHdr} (h : RecO B w y) (hb : Boxed w Bx t u) (ht : t ≠ 5) (u' : Value) : RecO B (w.setCell ⟨Bx, 0, none⟩ u') y :=
  h.carry fun k c fz hh => by rw [Below.heap_setCell _ _ _ k (boxed_ne hb hh ht)]; exact hh
theorem Ints8.setBox {B Bx : Nat} {w : World} {t : TypeId} {u : Value} {y : SHdr} (hi : Ints8 w (cellS y)) (h : RecO B w y) (hb : Boxed w Bx t u) (ht : t ≠ 5) (u' : Value) : Ints8 (w.setCell ⟨Bx, 0, none⟩ u') (cellS y) :=
  hi.carry fun g e => by
    rcases h.own.2 with ⟨hv, _⟩ | ⟨g', cap, cur, hv, _, hgb, _⟩
    · rw [hv] at e; cases e
    · rw [hv] at e; cases e
      exact Below.heap_setCell _ _ _ _ (boxed_ne hb hgb ht)
theorem OwnS.setBox {B Bx : Nat} {w : World} {t : TypeId} {u v : Value} {ys : List SHdr} (h : OwnS B w v ys) (hb : Boxed w Bx t u) (ht : t ≠ 5) (ht2 : t ≠ 26) (u' : Value) : OwnS B (w.setCell ⟨Bx, 0, none⟩ u') v ys :=
  ⟨h.own.kept (grownBy_setCell' w Bx u') (.inr (hb.not_row ht2 h.own).symm), fun y hy => (h.good y hy).setBox hb ht u'⟩
theorem ints_snoc {B : Nat} {w w' : World} {v : Value} {ys : List SHdr} {y : SHdr} {o : Obj} (h : OwnS B w v ys) (hi : Ints8 w (cellS y)) (hy : RecO B w y) (hg : (w.alloc o).grownBy w' v.ownBlock) : Ints8 w' (cellS y) :=
  hi.carry fun g e => by
    have hl := (hy.own.lt g e).2
    rcases hy.own.2 with ⟨hv, _⟩ | ⟨g', cap, cur, hv, _, hgb, _⟩
    · rw [hv] at e; cases e
    · rw [hv] at e; cases e
      dsimp only at hl
      rw [hg.block _ (by simp; omega) ?_, (World.grownBy_alloc w o none).block _ hl (by simp)]
      intro e'
      rcases h.own.2 with ⟨hv', _⟩ | ⟨g2, _, _, hv', _, hh', _⟩
      · rw [hv'] at e'; cases e'
      · rw [hv'] at e'
        cases e'
        rw [hh'] at hgb
        injection hgb with hgb; injection hgb with _ ht
        exact us_ne ht.symm
theorem OwnS.weak {B B' : Nat} {w : World} {v : Value} {ys : List SHdr} (h : OwnS B w v ys) (hb : B' ≤ B) : OwnS B' w v ys := ⟨own_weak h.own hb, fun y hy => ⟨(h.good y hy).bytes, own_weak (h.good y hy).own hb⟩⟩
/-- What a caller that gathers records holds: the slice so far in its variable. -/
def GathP {w0 : World} (B : Nat) (t : TypeId) (pre : List (Comes w0)) (W : World) : Prop :=
  ∃ v ys, Boxed W B t v ∧ OwnS (B + 1 + 1 + 1) W v ys ∧ (∀ y ∈ ys, Ints8 W (cellS y)) ∧ ys.map (·.1) = pre.map (·.1.2.1)
theorem gathP_own {w0 : World} (B : Nat) (t : TypeId) : Own (fun (pre : List (Comes w0)) W => GathP B t pre W) := by
  rintro s X Y row ⟨v, ys, h1, h2, h3, h4⟩ hg hr
  refine ⟨v, ys, h1.kept hg (fun e => ?_), h2.kept hg hr, fun y hy => (h3 y hy).kept (h2.good y hy) hg hr, h4⟩
  obtain ⟨o, ho, hc⟩ := hr B e.symm
  rw [show X.heap[B]? = _ from h1] at ho; cases ho; cases hc
/-- How far a caller has come. -/
def farP {w0 : World} (pre : List (Comes w0)) : Nat := farOf (pre.map (·.1))
theorem farP_le {w0 : World} (pre : List (Comes w0)) : farP pre ≤ 4008 * pre.length := by
  unfold farP
  induction pre with
  | nil => simp [farOf]
  | cons y r ih =>
    have h4 := y.2.2.2.2
    simp only [farOf, List.map_cons, List.sum_cons, List.length_cons, List.map_map] at ih ⊢
    omega
theorem farP_snoc {w0 : World} (pre : List (Comes w0)) (y : Comes w0) : farP (pre ++ [y]) = farP pre + (8 + y.1.2.1.length) := by
  unfold farP; rw [List.map_append]; exact farOf_snoc _ _
/-- .. and its variables. -/
def HoldP {w0 : World} (B : Nat) (sv : Value) (pre : List (Comes w0)) (W : World) : Prop :=
  (∀ y ∈ pre, y.1.1 = hd y.1.2.1) ∧ GathP B 22 pre W ∧ Boxed W (B + 1) 3 (.int .i64 (farP pre : Nat)) ∧ Boxed W (B + 1 + 1) 26 sv
theorem holdP_own {w0 : World} (B : Nat) (sv : Value) : Own (fun (pre : List (Comes w0)) W => HoldP B sv pre W) := by
  rintro s X Y row ⟨h1, h2, h3, h4⟩ hg hr
  exact ⟨h1, gathP_own B _ s X Y row h2 hg hr, boxed_own (B + 1) 3 (fun pre : List (Comes w0) => .int .i64 (farP pre : Nat)) s X Y row h3 hg hr, boxed_own (B + 1 + 1) 26 (fun _ : List (Comes w0) => sv) s X Y row h4 hg hr⟩
/-- The going was left at one whose head is not its record's. -/
def LeftP {w0 : World} (B : Nat) (sv : Value) (c : Code) (pre : List (Comes w0)) (W : World) : Prop := c = .exit 0 ∧ ∃ pre0 y, pre = pre0 ++ [y] ∧ y.1.1 ≠ hd y.1.2.1 ∧ HoldP B sv pre0 W
theorem leftP_own {w0 : World} (B : Nat) (sv : Value) (c : Code) : Own (fun (pre : List (Comes w0)) W => LeftP B sv c pre W) := by
  rintro s X Y row ⟨h1, p0, y, h2, h3, h4⟩ hg hr
  exact ⟨h1, p0, y, h2, h3, holdP_own B sv p0 X Y row h4 hg hr⟩
/-- What a round has left behind its append: one record more. -/
structure Mid (w W w9 : World) (sv v' : Value) (ys' : List SHdr) (far : Nat) : Prop where
  keeps : KeepsOthers W w9
  below : Below w.heap.size W w9
  out : Boxed w9 w.heap.size 22 v'
  own : OwnS (w.heap.size + 1 + 1 + 1) w9 v' ys'
  ints : ∀ z ∈ ys', Ints8 w9 (cellS z)
  far : Boxed w9 (w.heap.size + 1) 3 (.int .i64 (far : Nat))
  from_ : Boxed w9 (w.heap.size + 1 + 1) 26 sv
theorem Mid.made {w W w3 w8 : World} {far : Nat} {sv v v8' : Value} {ys : List SHdr} {y : SHdr} {o : Obj}
    (K3 : KeepsOthers W w3) (D3 : Below w.heap.size W w3) (hsz : w.heap.size + 1 + 1 + 1 ≤ w3.heap.size) (b3v : Boxed w3 w.heap.size 22 v) (b3a : Boxed w3 (w.heap.size + 1) 3 (.int .i64 (far : Nat))) (b3c : Boxed w3 (w.heap.size + 1 + 1) 26 sv)
    (C3 : OwnS (w.heap.size + 1 + 1 + 1) w3 v ys) (I3 : ∀ y ∈ ys, Ints8 w3 (cellS y)) (R3 : RecO (w.heap.size + 1 + 1 + 1) w3 y) (N3 : Ints8 w3 (cellS y))
    (hg8 : (w3.alloc o).grownBy w8 v.ownBlock) (hown8 : w8.ownsRow (w.heap.size + 1 + 1 + 1) 26 1 v8' (ys.length + 1) (ys.map cellS ++ [cellS y])) :
    Boxed w8 w.heap.size 22 v ∧ Mid w W (w8.setCell ⟨w.heap.size, 0, none⟩ v8') sv v8' (ys ++ [y]) far := by
  obtain ⟨f1, f2, f3, f4, f5⟩ := b3v.appended (by decide) (own_weak C3.own (show w.heap.size ≤ _ by omega)) (by omega) (Nat.le_refl _) (own_weak hown8 (show w.heap.size ≤ _ by omega)) hg8
  have C8 := C3.snoc R3 hg8 hown8
  have I8 : ∀ z ∈ ys ++ [y], Ints8 w8 (cellS z) := by
    intro z hz
    rcases List.mem_append.1 hz with h | h
    · exact ints_snoc C3 (I3 z h) (C3.good z h) hg8
    · cases List.mem_singleton.1 h; exact ints_snoc C3 N3 R3 hg8
  have b8a := (b3a.alloc _).kept hg8 (b3a.not_row (by decide) C3.own)
  have b8c := (b3c.alloc _).kept hg8 (fun e => by have := (C3.own.lt _ e.symm).1; omega)
  exact ⟨f1, K3.trans f4, D3.trans f5, f2, C8.setBox f1 (by decide) (by decide) v8', fun z hz => (I8 z hz).setBox (C8.good z hz) f1 (by decide) v8',
    b8a.other (B' := w.heap.size) (by omega) v8', b8c.other (B' := w.heap.size) (by omega) v8'⟩
theorem Mid.end_ {w W w9 : World} {B e c3 : Nat} {q3 : Option Addr} {sv v' : Value} {xs : List Int} {ys : List SHdr} {pre : List (Comes w)} {y : Comes w} {tm : Act}
    (h : Mid w W w9 sv v' (ys ++ [(xs, q3, c3)]) (farP pre)) (bc : Boxed W (w.heap.size + 1 + 1) 26 sv) (hB : Below w.heap.size w W)
    (hne : ∀ y ∈ pre, y.1.1 = hd y.1.2.1) (hm : ys.map (·.1) = pre.map (·.1.2.1)) (hyx : y.1.2.1 = xs) (hy : y.1.1 = hd y.1.2.1) (hye : farP (pre ++ [y]) = e) (k : Nat) :
    ownPostG B (KpB w.heap.size (w.heap.size + 1 + 1)) (fun pre W => HoldP w.heap.size sv pre W ∧ Below w.heap.size w W) (fun c pre W => LeftP w.heap.size sv c pre W ∧ Below w.heap.size w W) (pre ++ [y]) W .normal tm
      ((w9.drewN k).setCell ⟨w.heap.size + 1, 0, none⟩ (.int .i64 (e : Nat))) := by
  have f2d : Boxed (w9.drewN k) w.heap.size 22 v' := h.out
  have a2d : Boxed (w9.drewN k) (w.heap.size + 1) 3 _ := h.far
  have e2d : Boxed (w9.drewN k) (w.heap.size + 1 + 1) 26 sv := h.from_
  have F2 := f2d.other (B' := w.heap.size + 1) (by omega) (.int .i64 (e : Nat))
  have A2 := a2d.set (.int .i64 (e : Nat))
  have E2 := e2d.other (B' := w.heap.size + 1) (by omega) (.int .i64 (e : Nat))
  have C9 := h.own.on (below_drewN (Below.refl _ _) k)
  have CE := C9.setBox a2d (by decide) (by decide) (.int .i64 (e : Nat))
  have DE : Below w.heap.size W ((w9.drewN k).setCell ⟨w.heap.size + 1, 0, none⟩ (.int .i64 (e : Nat))) :=
    (below_drewN h.below k).setCell (p := ⟨w.heap.size + 1, 0, none⟩) (by simp) _
  refine ⟨(h.keeps.trans ((keepsOthers_drewN _ k).trans (KeepsOthers.setCell _ _ _))).from _, ⟨DE, (show _ = _ from E2).trans (show _ = _ from bc).symm⟩, ⟨?_, ⟨v', _, F2, CE, fun z hz => ?_, ?_⟩, ?_, E2⟩, hB.trans DE⟩
  · intro z hz
    rcases List.mem_append.1 hz with h | h
    · exact hne z h
    · cases List.mem_singleton.1 h; exact hy
  · exact ((h.ints z hz).carry fun g _ => rfl : Ints8 (w9.drewN k) (cellS z)).setBox (C9.good z hz) a2d (by decide) _
  · rw [List.map_append, List.map_append, hm]; simp [hyx]
  · rw [hye]; exact A2
end Go.Proofs.Ytfjopbgnijfajaa
