/-
  What the program's Get rests on: plain words, a slice of items without its first.
-/
import Derived.Test.YtokpabkcaofahaaGreatPb42
namespace Go.Proofs.YtokpabkcaofahaaGreat
section
set_option linter.unusedSimpArgs false
set_option linter.unusedVariables false
open Go.RowKit Sha Fct
open Fld (Itm)
theorem len_1 {α : Type} {l : List α} (h : l.length = 1) : ∃ a, l = [a] := List.length_eq_one_iff.1 h
theorem len_2 {α : Type} {l : List α} (h : l.length = 2) : ∃ a b, l = [a, b] := by
  match l, h with
  | [a, b], _ => exact ⟨a, b, rfl⟩
theorem len_3 {α : Type} {l : List α} (h : l.length = 3) : ∃ a b c, l = [a, b, c] := by
  match l, h with
  | [a, b, c], _ => exact ⟨a, b, c, rfl⟩
theorem len_4 {α : Type} {l : List α} (h : l.length = 4) : ∃ a b c d, l = [a, b, c, d] := by
  match l, h with
  | [a, b, c, d], _ => exact ⟨a, b, c, d, rfl⟩
/-- A kind's letters, its items: so many. -/
theorem facL_ofT (k : Int) (hk : 1 ≤ k ∧ k < 11) (t : List Itm) (ht : t.length = (hasL k).length) : facL (hasL k) t (kindF k) = of k t := by
  rcases kinds hk with rfl | rfl | rfl | rfl | rfl | rfl | rfl | rfl | rfl | rfl
  · simp [hasL, facL, kindF, of]
  · obtain ⟨a, rfl⟩ := len_1 (by simpa [hasL] using ht); simp [hasL, facL, layF, kindF, of]
  · obtain ⟨a, rfl⟩ := len_1 (by simpa [hasL] using ht); simp [hasL, facL, layF, kindF, of]
  · obtain ⟨a, b, rfl⟩ := len_2 (by simpa [hasL] using ht); simp [hasL, facL, layF, kindF, of]
  · obtain ⟨a, b, c, rfl⟩ := len_3 (by simpa [hasL] using ht); simp [hasL, facL, layF, kindF, of]
  · obtain ⟨a, b, c, rfl⟩ := len_3 (by simpa [hasL] using ht); simp [hasL, facL, layF, kindF, of]
  · obtain ⟨a, b, c, rfl⟩ := len_3 (by simpa [hasL] using ht); simp [hasL, facL, layF, kindF, of]
  · obtain ⟨a, b, c, d, rfl⟩ := len_4 (by simpa [hasL] using ht); simp [hasL, facL, layF, kindF, of]
  · obtain ⟨a, b, rfl⟩ := len_2 (by simpa [hasL] using ht); simp [hasL, facL, layF, kindF, of]
  · obtain ⟨a, rfl⟩ := len_1 (by simpa [hasL] using ht); simp [hasL, facL, layF, kindF, of]
theorem bnd_canT (k : Int) (hk : 1 ≤ k ∧ k < 11) (t : List Itm) (ht : t.length = (hasL k).length) : bndL (hasL k) t = can (of k t) := by
  have hp : of (of k t).K (items (of k t)) = of k t := by
    rcases kinds hk with rfl | rfl | rfl | rfl | rfl | rfl | rfl | rfl | rfl | rfl <;> simp [of, items, iN, iD, iB]
  have hK : (of k t).K = k := by
    rcases kinds hk with rfl | rfl | rfl | rfl | rfl | rfl | rfl | rfl | rfl | rfl <;> simp [of]
  rw [Bool.eq_iff_iff, can_iff]
  rcases kinds hk with rfl | rfl | rfl | rfl | rfl | rfl | rfl | rfl | rfl | rfl
  · constructor
    · intro _; exact ⟨by rw [hK]; omega, hp, by rw [hK]; omega, by rw [hK]; omega, by rw [hK]; omega, by simp [of]⟩
    · intro _; simp [hasL, bndL]
  · obtain ⟨a, rfl⟩ := len_1 (by simpa [hasL] using ht)
    constructor
    · intro h; simp [hasL, bndL, inB] at h
      exact ⟨by rw [hK]; omega, hp, fun _ _ => by simp [of, setOk]; omega, by rw [hK]; omega, by rw [hK]; omega, by simp [of]⟩
    · intro h; have h1 := h.set_ (by rw [hK]; omega) (by rw [hK]; omega); simp [of, setOk] at h1; simp [hasL, bndL, inB]; omega
  · obtain ⟨a, rfl⟩ := len_1 (by simpa [hasL] using ht)
    constructor
    · intro h; simp [hasL, bndL, inB] at h
      exact ⟨by rw [hK]; omega, hp, by rw [hK]; omega, by rw [hK]; omega, by rw [hK]; omega, by simp [of]; omega⟩
    · intro h; have h1 := h.most; simp [of] at h1; simp [hasL, bndL, inB]; omega
  · obtain ⟨a, b, rfl⟩ := len_2 (by simpa [hasL] using ht)
    constructor
    · intro h; simp [hasL, bndL, inB] at h
      exact ⟨by rw [hK]; omega, hp, fun _ _ => by simp [of, setOk]; omega, by rw [hK]; omega, by rw [hK]; omega, by simp [of]⟩
    · intro h; have h1 := h.set_ (by rw [hK]; omega) (by rw [hK]; omega); simp [of, setOk] at h1; simp [hasL, bndL, inB]; omega
  · obtain ⟨a, b, c, rfl⟩ := len_3 (by simpa [hasL] using ht)
    constructor
    · intro h; simp [hasL, bndL, inB] at h
      exact ⟨by rw [hK]; omega, hp, fun _ _ => by simp [of, setOk]; omega, fun _ => by simp [of, nodeOk]; omega, by rw [hK]; omega, by simp [of]⟩
    · intro h; have h1 := h.set_ (by rw [hK]; omega) (by rw [hK]; omega); have h2 := h.home (by rw [hK]; omega); simp [of, setOk] at h1; simp [of, nodeOk] at h2; simp [hasL, bndL, inB]; omega
  · obtain ⟨a, b, c, rfl⟩ := len_3 (by simpa [hasL] using ht)
    constructor
    · intro h; simp [hasL, bndL, inB] at h
      exact ⟨by rw [hK]; omega, hp, fun _ _ => by simp [of, setOk]; omega, fun _ => by simp [of, nodeOk]; omega, by rw [hK]; omega, by simp [of]⟩
    · intro h; have h1 := h.set_ (by rw [hK]; omega) (by rw [hK]; omega); have h2 := h.home (by rw [hK]; omega); simp [of, setOk] at h1; simp [of, nodeOk] at h2; simp [hasL, bndL, inB]; omega
  · obtain ⟨a, b, c, rfl⟩ := len_3 (by simpa [hasL] using ht)
    constructor
    · intro h; simp [hasL, bndL, inB] at h
      exact ⟨by rw [hK]; omega, hp, fun _ _ => by simp [of, setOk]; omega, by rw [hK]; omega, fun _ => by simp [of, setOk, nodeOk]; omega, by simp [of]⟩
    · intro h; have h1 := h.set_ (by rw [hK]; omega) (by rw [hK]; omega); have h2 := h.ballot (by rw [hK]; omega); simp [of, setOk] at h1; simp [of, setOk, nodeOk] at h2; simp [hasL, bndL, inB]; omega
  · obtain ⟨a, b, c, d, rfl⟩ := len_4 (by simpa [hasL] using ht)
    constructor
    · intro h; simp [hasL, bndL, inB] at h
      exact ⟨by rw [hK]; omega, hp, fun _ _ => by simp [of, setOk]; omega, by rw [hK]; omega, fun _ => by simp [of, setOk, nodeOk]; omega, by simp [of]; omega⟩
    · intro h; have h1 := h.set_ (by rw [hK]; omega) (by rw [hK]; omega); have h2 := h.ballot (by rw [hK]; omega); have h3 := h.most; simp [of, setOk] at h1; simp [of, setOk, nodeOk] at h2; simp [of] at h3; simp [hasL, bndL, inB]; omega
  · obtain ⟨a, b, rfl⟩ := len_2 (by simpa [hasL] using ht)
    constructor
    · intro h; simp [hasL, bndL, inB] at h
      exact ⟨by rw [hK]; omega, hp, fun _ _ => by simp [of, setOk]; omega, by rw [hK]; omega, by rw [hK]; omega, by simp [of]; omega⟩
    · intro h; have h1 := h.set_ (by rw [hK]; omega) (by rw [hK]; omega); have h3 := h.most; simp [of, setOk] at h1; simp [of] at h3; simp [hasL, bndL, inB]; omega
  · obtain ⟨a, rfl⟩ := len_1 (by simpa [hasL] using ht)
    constructor
    · intro h; simp [hasL, bndL, inB] at h
      exact ⟨by rw [hK]; omega, hp, fun _ _ => by simp [of, setOk]; omega, by rw [hK]; omega, by rw [hK]; omega, by simp [of]⟩
    · intro h; have h1 := h.set_ (by rw [hK]; omega) (by rw [hK]; omega); simp [of, setOk] at h1; simp [hasL, bndL, inB]; omega
theorem fits_len : ∀ (s : List Int) (l : List Itm), Fld.fits s l = true → l.length = s.length
  | [], [], _ => rfl
  | [], _ :: _, h => by simp [Fld.fits] at h
  | _ :: _, [], h => by simp [Fld.fits] at h
  | c :: s, x :: l, h => by
    simp only [Fld.fits, Bool.and_eq_true] at h
    simp [fits_len s l h.2]
theorem shape_has (k : Int) : (Fct.shape k).length = (hasL k).length := by unfold Fct.shape hasL; (repeat' split) <;> rfl
theorem get_len {k : Int} {b : List Int} {l : List Itm} {j : Nat} (hb : ∀ n ∈ b, 0 ≤ n ∧ n ≤ 255) (h : Fld.get (letters k) b = (l, 0, j)) : l.length = 1 + (hasL k).length ∧ j = 0 := by
  obtain ⟨h1, _, h2, _⟩ := Fld.get_ok hb h
  refine ⟨?_, h2⟩
  rw [fits_len _ _ (Fld.fits_put (letters_flat k).1 h1), letters, List.length_cons, shape_has]; omega
/-- What is left of a slice of items behind its first. -/
theorem told_tail {w : World} {p : Option Addr} {n c : Nat} {x : Itm} {l : List Itm} (h : Told w p n c (x :: l)) : Told w (if c = 1 then p else p.map (·.add (1 * 34))) (n - 1) (c - 1) l := by
  have h1 := h.len
  have h2 := h.le
  have h3 := h.max
  have h4 := h.nil
  rw [List.length_cons] at h1
  obtain ⟨ys, hy, h5, h6⟩ := h.items
  obtain ⟨y, ys', rfl⟩ : ∃ y ys', ys = y :: ys' := by
    cases ys with
    | nil => simp at hy
    | cons y ys' => exact ⟨y, ys', rfl⟩
  simp only [List.map_cons, List.cons.injEq] at hy
  refine ⟨by omega, by omega, by omega, fun e => ?_, ys', hy.2, ?_, fun z hz => h6 z (List.mem_cons_of_mem _ hz)⟩
  · split at e
    · omega
    · cases p with
      | none => have := h4 rfl; omega
      | some a => simp at e
  · by_cases e : c = 1
    · have hl : ys' = [] := by
        have : ys'.length = l.length := by rw [← hy.2, List.length_map]
        exact List.eq_nil_of_length_eq_zero (by omega)
      rw [hl]; exact At.nil _ _
    · rw [if_neg e]
      cases p with
      | none => have := h4 rfl; omega
      | some a =>
        have hl : (cellsI y).length = 34 := icells_length (h6 y (List.mem_cons_self ..)).ok _ _
        rw [List.flatMap_cons] at h5
        rcases h5 with h0 | ⟨b, off, ha, hc⟩
        · have := congrArg List.length h0; simp [hl] at this
        · cases ha
          have h7 : At w (some ⟨b, off, none⟩) (cellsI y ++ ys'.flatMap cellsI) := Or.inr ⟨b, off, rfl, hc⟩
          have h8 := h7.back
          rw [hl] at h8
          simpa [Addr.add_mid] using h8
theorem told_tailC {u : Prop} {w : World} {p : Option Addr} {n c : Nat} {x : Itm} {l : List Itm} (h : ToldC u w p n c (x :: l)) : ToldC u w (if c = 1 then p else p.map (·.add (1 * 34))) (n - 1) (c - 1) l := by
  refine ⟨told_tail h.told, ?_⟩
  have h1 := h.told.len
  have h2 := h.told.le
  have h4 := h.told.nil
  rw [List.length_cons] at h1
  obtain ⟨ys, hy, h5, h6⟩ := h.rows
  obtain ⟨y, ys', rfl⟩ : ∃ y ys', ys = y :: ys' := by
    cases ys with
    | nil => simp at hy
    | cons y ys' => exact ⟨y, ys', rfl⟩
  simp only [List.map_cons, List.cons.injEq] at hy
  refine ⟨ys', hy.2, ?_, fun z hz => h6 z (List.mem_cons_of_mem _ hz)⟩
  by_cases e : c = 1
  · have hl : ys' = [] := by
      have : ys'.length = l.length := by rw [← hy.2, List.length_map]
      exact List.eq_nil_of_length_eq_zero (by omega)
    rw [hl]; exact At.nil _ _
  · rw [if_neg e]
    cases p with
    | none => have := h4 rfl; omega
    | some a =>
      have hl : (cellsI y).length = 34 := icells_length (h6 y (List.mem_cons_self ..)).1.ok _ _
      rw [List.flatMap_cons] at h5
      rcases h5 with h0 | ⟨b, off, ha, hc⟩
      · have := congrArg List.length h0; simp [hl] at this
      · cases ha
        have h7 : At w (some ⟨b, off, none⟩) (cellsI y ++ ys'.flatMap cellsI) := Or.inr ⟨b, off, rfl, hc⟩
        have h8 := h7.back
        rw [hl] at h8
        simpa [Addr.add_mid] using h8
theorem ToldR.c {u : Prop} {w : World} {p : Option Addr} {n c : Nat} {l : List Itm} (h : ToldR w p n c l) : ToldC u w p n c l := by
  obtain ⟨ys, h1, h2, h3⟩ := h.rows
  refine ⟨h.told, ys, h1, h2, fun y hy => ⟨(h3 y hy).good, fun _ => ?_⟩⟩
  rcases (h3 y hy).at_ with h4 | ⟨g, h4, h5⟩
  · exact Or.inl h4.1
  · exact Or.inr ⟨g, _, h4, h5⟩
theorem u8t_ne : (5 : TypeId) ≠ 64 := by decide
theorem told_rowFC {u : Prop} {w : World} {p : Option Addr} {n c g : Nat} {l : List Itm} {e a : Int} (h : ToldC u w p n c l) (hk : Blk w g (flt e a) 64) (cs : List Value) : ToldC u (w.setRow g cs.toArray) p n c l := by
  refine ⟨told_rowF h.told hk cs, ?_⟩
  obtain ⟨ys, h1, h2, h3⟩ := h.rows
  obtain ⟨hA, hG⟩ := rows_rowF h2 (fun y hy => (h3 y hy).1) hk cs
  exact ⟨ys, h1, hA, fun y hy => ⟨hG y hy, fun hu => ((h3 y hy).2 hu).on fun k ds hb => hb.rowOther _ (blk_ne hb hk u8t_ne)⟩⟩
@[irreducible] def cutI (v lo : Value) : Sem Next := do pure (.value (← Instr.sliceAt 81 v (some lo) none none))
theorem execOp_cutI (ρ : Operand → Value) (dst : Option Tmp) (x lo : Operand) (ty : TypeId) (pos : String) (after : Array Edge) (guard : Option (Nat × Bool)) :
    execOp ρ { dst := dst, op := .slice 81 x (some lo) none none, type := ty, pos := pos, after := after, guard := guard } = cutI (ρ x) (ρ lo) := by unfold cutI; rfl
theorem run_cutI (p : Option Addr) (n c : Nat) (h1 : 1 ≤ n) (hc : n ≤ c) (hm : c ≤ 9223372036854775807) (w : World) :
    (cutI (.slice p n c) (.int .i64 1)).run Tryz.prog w = .ok (.value (.slice (if c = 1 then p else p.map (·.add (1 * 34))) (n - 1) (c - 1))) w := by
  have hu := Tryz.underlying81
  have hu' : Tryz.prog.underlying 81 = some (.slice (Tryz.prog.elem 81)) := by rw [elem_of hu]; exact hu
  have h2 := run_slice_l w 81 p n c hu' .i64 ((1 : Nat) : Int) (by omega) (by omega)
  unfold cutI
  rw [Sem.run_bind, run_sliceAt_slice w 81 _ _ _ _ hu', show (1 : Int) = ((1 : Nat) : Int) from rfl, h2, elem_of hu, size_of item_size]
  simp [Result.andThen, sliced]
theorem made_fz (w : World) : (makeOp 28 #[]).run Tryz.prog w = .ok (.value (.agg (fcells fz none 0).toArray)) w := run_makeOp w (by unfold fcells; kernel_rfl)
end
end Go.Proofs.YtokpabkcaofahaaGreat
