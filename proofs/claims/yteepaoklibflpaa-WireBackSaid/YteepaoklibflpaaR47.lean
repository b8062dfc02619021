/-
  The wire package keeps what the laws ask of it.
  The laws of stage 15 without the reference, as their last texts want them. (wireOK: the program's side, to come.)
  An array of bytes among the arguments: opened to its numbers, and shut again.
  The last step of a law's row: it answered true, and left what was there as it was.
  What rows ask of the program itself; a slice of bytes among the arguments.
  A slice of bytes in memory that is looked through, opened.
  A note among the arguments, opened.
-/
import Derived.Test.YteepaoklibflpaaR46
import Derived.Test.YteepaoklibflpaaR37
import Derived.Test.YteepaoklibflpaaR23
import Derived.Test.YteepaoklibflpaaR17
import Derived.Test.YteepaoklibflpaaR18
import Derived.Test.YteepaoklibflpaaR8
import Derived.ProofKit
import Derived.OpenShut
import Derived.Test.YteepaoklibflpaaRows
import Derived.ChangeSlices
import Derived.Test.YteepaoklibflpaaR3
import Derived.Deep.Slices
import Derived.Deep.Strs
import Derived.Test.YteepaoklibflpaaR11
namespace Go.Proofs.Yteepaoklibflpaa
section
open Go.RowKit Sha Nte
theorem wireOK : WireOK where
  check := fun x h w hg hf => wcheck_any x h w hg hf
  put := fun x h w hg hf => wput_any frameOK x h w hg hf
  get := fun zs n p cap w hl hg hn => wget_any frameOK zs n p cap w hl hg hn
  same := fun x y h k w hx hy _ _ => wsame_any x y h k w hx hy
end
section
set_option linter.unusedSimpArgs false
set_option linter.unusedVariables false
open Go.RowKit Sha Nte
theorem wknown_law (w : World) : Calls Try.prog 3 #[] w fun e w' => e = .returned (.bool true) ∧ Below w.heap.size w w' := wknown_any wireOK frameOK w
theorem wback_law (x : Not) (h : NHd) (y : Not) (k : NHd) (w : World) (hx : NGood w x h) (hy : NGood w y k) :
    Calls Try.prog 4 #[.agg (ncells x h).toArray, .agg (ncells y k).toArray] w fun e w' => e = .returned (.bool true) ∧ Below w.heap.size w w' := wback_any wireOK frameOK sameNote_any x y h k w hx hy
theorem wagain_law (bs : List Int) (n : Nat) (p : Option Addr) (c : Nat) (m : Int) (w : World) (hl : bs.length = n) (hA : At w p (bs.map v8)) (hc : n ≤ c) (hm : c ≤ maxLen) (hp : p = none → c = 0) (hb : ∀ m ∈ bs, 0 ≤ m ∧ m ≤ 255) (hx : 0 ≤ m ∧ m ≤ 255) :
    Calls Try.prog 5 #[.slice p n c, .int .u8 m] w fun e w' => e = .returned (.bool true) ∧ Below w.heap.size w w' := wagain_any wireOK frameOK sameNote_any bs n p c m w hl hA hc hm hp hb hx
end
section
set_option linter.unusedSimpArgs false
set_option linter.unusedVariables false
open Go.ChangeShapes Go.WideShapes Go.ChangeAt Go.RowKit
section
variable {H : Type} {enc : TypeId × Value → H} {P : Program} {w : World} {base : Nat} {spare : Nat → Bool} {held : Bool}
theorem mapM_some_length' {α β : Type} {f : α → Option β} : ∀ {l : List α} {ys : List β}, l.mapM f = some ys → ys.length = l.length
  | [], ys, h => by simp at h; simp [h]
  | a :: l, ys, h => by
    rw [List.mapM_cons] at h
    cases ha : f a with
    | none => simp [ha] at h
    | some y =>
      cases hl : l.mapM f with
      | none => simp [ha, hl] at h
      | some zs =>
        simp [ha, hl] at h
        subst h
        simp [mapM_some_length' hl]
/-- An array of bytes by value: its numbers. -/
theorem open_bytes {r : Reach} {b0 : Nat} {t e : TypeId} {n : Nat} {v : Value} {d : DataW H} {p : List MemPlace} (ht : P.underlying t = some (.array n e)) (he : P.underlying e = some (.int .u8)) (hce : P.cellsOf e = 1) (hct : P.cellsOf t = n)
    (hv : Value.okWide P w r b0 t v) (h : DataW.Trod enc P w base spare held t v d p) :
    ∃ xs : List Int, v = .agg (xs.map (Value.int .u8)).toArray ∧ xs.length = n ∧ (∀ m ∈ xs, 0 ≤ m ∧ m ≤ 255) ∧ d = .agg (xs.map fun m => .lit (.int .u8 m)) ∧ p = [] := by
  simp only [Value.okWide, ht] at hv
  obtain ⟨cs, rfl, hsz, _⟩ := hv
  obtain ⟨fuel, hf⟩ := h
  obtain ⟨ys, m, _, hx, hl, hyl, hel⟩ := DataW.trod_array ht hf
  simp only [Value.cells] at hl hel
  simp only [hce, Nat.mul_one] at hel
  have hcl : cs.toList.length = n := by rw [hl, hct]
  have each : ∀ i, i < n → ∃ z, cs.toList[i]? = some (.int .u8 z) ∧ ys[i]? = some (.lit (.int .u8 z), []) ∧ 0 ≤ z ∧ z ≤ 255 := by
    intro i hi
    have h1 := hel i hi
    have h2 : ∃ y, ys[i]? = some y := ⟨ys[i], List.getElem?_eq_getElem (by omega)⟩
    obtain ⟨y, hy⟩ := h2
    rw [hy] at h1
    obtain ⟨z, hc, rfl, hwf⟩ := DataW.trod_int he h1
    refine ⟨z, ?_, hy, bounds_u8 hwf⟩
    have := congrArg (·[0]?) hc
    simpa [List.getElem?_take, List.getElem?_drop] using this
  refine ⟨(cs.toList.map fun c => match c with | .int _ z => z | _ => 0), ?_, by simpa using hcl, ?_, ?_, ?_⟩
  · congr 1
    apply Array.ext'
    simp only [List.map_map]
    apply List.ext_getElem?
    intro i
    rw [List.getElem?_map]
    by_cases hi : i < n
    · obtain ⟨z, hz, _⟩ := each i hi
      simp [hz]
    · rw [List.getElem?_eq_none (by omega)]; rfl
  · intro q hq
    obtain ⟨c, hc, rfl⟩ := List.mem_map.1 hq
    obtain ⟨i, hi, hci⟩ := List.mem_iff_getElem.1 hc
    obtain ⟨z, hz, _, hb⟩ := each i (by omega)
    rw [List.getElem?_eq_getElem hi, hci] at hz
    cases hz
    exact hb
  · have h1 := congrArg Prod.fst hx
    simp only at h1
    rw [h1]
    congr 1
    apply List.ext_getElem?
    intro i
    rw [List.getElem?_map, List.getElem?_map, List.getElem?_map]
    by_cases hi : i < n
    · obtain ⟨z, hz, hy, _⟩ := each i hi
      simp [hz, hy]
    · rw [List.getElem?_eq_none (by omega), List.getElem?_eq_none (by omega)]; rfl
  · have h1 := congrArg Prod.snd hx
    simp only at h1
    rw [h1]
    apply List.flatMap_eq_nil_iff.2
    intro y hy
    obtain ⟨i, hi, hyi⟩ := List.mem_iff_getElem.1 hy
    obtain ⟨z, _, hz, _⟩ := each i (by omega)
    rw [List.getElem?_eq_getElem hi, hyi] at hz
    cases hz
    rfl
theorem mapM_range_some {α : Type} (f : Nat → Option α) (g : Nat → α) : ∀ (l : List Nat), (∀ i ∈ l, f i = some (g i)) → l.mapM f = some (l.map g)
  | [], _ => by simp
  | a :: l, h => by
    rw [List.mapM_cons, h a (by simp), mapM_range_some f g l (fun i hi => h i (by simp [hi]))]
    simp
theorem shut_bytes {t e : TypeId} {n : Nat} (ht : P.underlying t = some (.array n e)) (he : P.underlying e = some (.int .u8)) (hce : P.cellsOf e = 1) (hct : P.cellsOf t = n)
    (xs : List Int) (hl : xs.length = n) (hb : ∀ m ∈ xs, 0 ≤ m ∧ m ≤ 255) :
    DataW.Trod enc P w base spare held t (.agg (xs.map (Value.int .u8)).toArray) (.agg (xs.map fun m => .lit (.int .u8 m))) [] := by
  refine ⟨2, ?_⟩
  have key : ∀ i ∈ List.range n, DataW.trod enc P w base spare held 1 e (((xs.map (Value.int .u8)).drop i).take 1) = some (.lit (.int .u8 (xs.getD i 0)), []) := by
    intro i hi
    have hi' : i < xs.length := by rw [hl]; exact List.mem_range.1 hi
    have h1 : ((xs.map (Value.int .u8)).drop i).take 1 = [.int .u8 xs[i]] := by
      rw [List.drop_eq_getElem_cons (by simpa using hi')]; simp
    have h2 := hb xs[i] (List.getElem_mem hi')
    have h3 : (Lit.int .u8 xs[i]).wf = true := WalkArith.wf_u8 (by omega)
    rw [h1]
    simp [DataW.trod, he, h3, hi']
  have hm := mapM_range_some (fun i => DataW.trod enc P w base spare held 1 e (((xs.map (Value.int .u8)).drop i).take 1)) (fun i => ((.lit (.int .u8 (xs.getD i 0)), []) : DataW H × List MemPlace)) (List.range n) key
  have hcells : (Value.agg (xs.map (Value.int .u8)).toArray).cells.toList = xs.map (Value.int .u8) := by simp [Value.cells]
  rw [hcells]
  unfold DataW.trod
  simp only [ht, hce, Nat.mul_one, hct, List.length_map, hl, if_true, hm]
  simp only [Option.map_some, List.map_map, Option.some.injEq, Prod.mk.injEq]
  refine ⟨?_, by simp⟩
  congr 1
  apply List.ext_getElem?
  intro i
  rw [List.getElem?_map, List.getElem?_map]
  by_cases hi : i < n
  · simp [hi, hl]
  · simp [hi, hl]
end
end
section
set_option linter.unusedSimpArgs false
set_option linter.unusedVariables false
open Go.ChangeShapes Go.WideShapes Go.ChangeAt Go.RowKit
section
variable {H : Type} {enc : TypeId × Value → H} {P : Program}
theorem trodAll_carry {W W' : World} (hl : laidOutB P = true) (hb : Below W.heap.size W W') :
    ∀ {ts : List TypeId} {vs : List Value} {ds : List (DataW H)} {ps : List MemPlace}, DataW.TrodAll enc P W 0 (fun _ => true) true ts vs ds ps → (∀ t ∈ ts, P.readableRec t = true ∧ t < P.types.size) → (∀ x ∈ ps, x.block < W.heap.size) →
      DataW.TrodAll enc P W' 0 (fun b => decide (b < W.heap.size)) true ts vs ds ps
  | [], vs, ds, ps, h, _, _ => by
    obtain ⟨rfl, rfl, rfl⟩ := trodAll_nil h
    exact trodAll_mk0
  | t :: ts, vs, ds, ps, h, hr, hp => by
    obtain ⟨v, vs', d, ds', p, p', rfl, rfl, rfl, h1, h2⟩ := trodAll_cons h
    exact ⟨p, p', Below.trod hl (hr t (by simp)).1 (hr t (by simp)).2 h1 hb (fun x hx => hp x (by simp [hx])), trodAll_carry hl hb h2 (fun t ht => hr t (by simp [ht])) (fun x hx => hp x (by simp [hx])), rfl⟩
/-- What a law's row asks behind the call. -/
theorem law_post {f : Func} {s : ChangeSpec} {W W' : World} {args : Array Value} {ds : List (DataW H)} {before : List MemPlace} {tb : TypeId}
    (hW : DataW.Whole enc P f.params.toList s.vars false W args.toList ds [] before) (hv : s.vars = []) (hfn : s.fn H (ds ++ []) = { results := [.lit (.bool true)], args := ds })
    (hr : f.resultTypes = #[tb]) (hu : P.underlying tb = some .bool) (hl : laidOutB P = true) (hps : ∀ t ∈ f.params.toList, P.readableRec t = true ∧ t < P.types.size) (hb : Below W.heap.size W W') :
    s.post enc P f false true false false W args (.bool true) W' := by
  have hlt : ∀ p ∈ before, p.block < W.heap.size := fun p hp => hW.lt p hp
  have hW2 := hW
  obtain ⟨p, q, hA, hV, hbe, _, _⟩ := hW2
  rw [hv] at hV
  obtain ⟨_, hq⟩ := trodVars_none hV
  have hbp : before = p := by rw [hbe, hq, List.append_nil]
  refine ⟨ds, [], before, [], p, [], hW, ?_, ?_, ?_, ?_, fun h => by cases h⟩
  · rw [hr, hfn]
    exact trodAll_mk1 (shut_bool hu true)
  · rw [hfn]
    exact trodAll_carry hl hb hA hps (fun x hx => hlt x (by rw [hbp]; exact hx))
  · rw [hv, hfn]; rfl
  · refine World.keptBut_mono (fun x hx => ⟨hx, ?_⟩) (hb.frame (· ∈ before))
    right; left
    rw [← hbp]; exact hx
end
end
section
set_option linter.unusedSimpArgs false
set_option linter.unusedVariables false
open Go.ChangeShapes Go.WideShapes Go.ChangeAt Go.RowKit
theorem Try.own : ownKnob Try.prog.godebug = none := by kernel_rfl
theorem Try.laidOut : laidOutB Try.prog = true := by kernel_rfl
section
variable {H : Type} {enc : TypeId × Value → H} {P : Program} {w : World} {base : Nat} {spare : Nat → Bool} {held : Bool}
theorem wf_bounds8 {n : Int} (h : (Lit.int .u8 n).wf = true) : 0 ≤ n ∧ n ≤ 255 := bounds_u8 h
/-- A slice of bytes among the arguments: its numbers. -/
theorem open_bytesl {r : Reach} {b0 : Nat} {t e : TypeId} {v : Value} {d : DataW H} {p : List MemPlace} (ht : P.underlying t = some (.slice e)) (he : P.underlying e = some (.int .u8)) (hc : P.cellsOf e = 1)
    (hv : Value.okWide P w r b0 t v) (h : DataW.Trod enc P w base spare held t v d p) :
    ∃ (q : Option Addr) (xs : List Int) (len cap : Nat), v = .slice q len cap ∧ xs.length = len ∧ At w q (xs.map (Value.int .u8)) ∧ len ≤ cap ∧ cap ≤ maxLen ∧ (q = none → cap = 0) ∧ (∀ n ∈ xs, 0 ≤ n ∧ n ≤ 255) := by
  obtain ⟨a0, len0, cap0, rfl⟩ := okWide_slice ht hv
  obtain ⟨fuel, hf⟩ := h
  rcases open_ints ht he hc hf with ⟨hcs, hx⟩ | ⟨a, len, cap, zs, hcs, _, hl, hm, hz, hx, hcell, hwz⟩
  · simp [Value.cells] at hcs
    obtain ⟨rfl, rfl, rfl⟩ := hcs
    exact ⟨none, [], 0, 0, rfl, rfl, At.nil _ _, Nat.le_refl _, by simp [maxLen], fun _ => rfl, by simp⟩
  · simp [Value.cells] at hcs
    obtain ⟨rfl, rfl, rfl⟩ := hcs
    have hzl : len0 ≤ zs.length := by rw [hz]; split <;> omega
    refine ⟨some a, zs.take len0, len0, cap0, rfl, by simp; omega, ?_, hl, hm, (fun h => by cases h), fun n hn => bounds_u8 (hwz n (List.mem_of_mem_take hn))⟩
    by_cases h0 : len0 = 0
    · subst h0; simp; exact At.nil _ _
    · have h1 := hcell 0 (by omega)
      have hsp : a.spot = none := by
        have : a.add 0 = a := by simp [Addr.add]
        rw [this] at h1
        cases hs : a.spot with
        | none => rfl
        | some s =>
          unfold World.cell? at h1
          split at h1
          · simp [hs] at h1
          · cases h1
      obtain ⟨b, off, sp⟩ := a
      simp only at hsp
      subst hsp
      refine Or.inr ⟨b, off, rfl, fun i v hi => ?_⟩
      rw [List.getElem?_map] at hi
      rcases Nat.lt_or_ge i len0 with hlt | hge
      · rw [List.getElem?_take, if_pos hlt, List.getElem?_eq_getElem (by omega)] at hi
        simp at hi
        subst hi
        have := hcell i (by omega)
        rw [Addr.add_mid] at this
        rw [this]; simp [List.getElem?_eq_getElem (show i < zs.length by omega)]
      · rw [List.getElem?_eq_none (by simp; omega)] at hi; cases hi
end
end
section
set_option linter.unusedSimpArgs false
set_option linter.unusedVariables false
open Go.ChangeShapes Go.WideShapes Go.ChangeAt Go.RowKit Sha
section
variable {H : Type} {enc : TypeId × Value → H} {P : Program} {w : World} {base : Nat} {spare : Nat → Bool} {held : Bool}
/-- A slice of bytes in memory: its numbers. -/
theorem cells_bytesl {t e : TypeId} {fuel : Nat} {cs : List Value} {x : DataW H × List MemPlace} (ht : P.underlying t = some (.slice e)) (he : P.underlying e = some (.int .u8)) (hc : P.cellsOf e = 1)
    (hf : DataW.trod enc P w base spare held fuel t cs = some x) :
    ∃ (q : Option Addr) (xs : List Int) (cap : Nat), cs = [.slice q xs.length cap] ∧ At w q (xs.map v8) ∧ xs.length ≤ cap ∧ cap ≤ maxLen ∧ (q = none → cap = 0) ∧ (∀ n ∈ xs, 0 ≤ n ∧ n ≤ 255) := by
  rcases open_ints ht he hc hf with ⟨hcs, hx⟩ | ⟨a, len, cap, zs, hcs, _, hl, hm, hz, hx, hcell, hwz⟩
  · exact ⟨none, [], 0, hcs, At.nil _ _, Nat.le_refl _, by simp [maxLen], fun _ => rfl, by simp⟩
  · have hzl : len ≤ zs.length := by rw [hz]; split <;> omega
    have hlen : (zs.take len).length = len := by simp; omega
    refine ⟨some a, zs.take len, cap, by rw [hlen]; exact hcs, ?_, by rw [hlen]; exact hl, hm, (fun h => by cases h), fun n hn => bounds_u8 (hwz n (List.mem_of_mem_take hn))⟩
    by_cases h0 : len = 0
    · subst h0; simp; exact At.nil _ _
    · have h1 := hcell 0 (by omega)
      have hsp : a.spot = none := by
        have : a.add 0 = a := by simp [Addr.add]
        rw [this] at h1
        cases hs : a.spot with
        | none => rfl
        | some s =>
          unfold World.cell? at h1
          split at h1
          · simp [hs] at h1
          · cases h1
      obtain ⟨b, off, sp⟩ := a
      simp only at hsp
      subst hsp
      refine Or.inr ⟨b, off, rfl, fun i v hi => ?_⟩
      rw [List.getElem?_map] at hi
      rcases Nat.lt_or_ge i len with hlt | hge
      · rw [List.getElem?_take, if_pos hlt, List.getElem?_eq_getElem (by omega)] at hi
        simp at hi
        subst hi
        have := hcell i (by omega)
        rw [Addr.add_mid] at this
        rw [this]; simp [v8, List.getElem?_eq_getElem (show i < zs.length by omega)]
      · rw [List.getElem?_eq_none (by simp; omega)] at hi; cases hi
end
end
section
set_option linter.unusedSimpArgs false
set_option linter.unusedVariables false
set_option maxRecDepth 100000
open Go.ChangeShapes Go.WideShapes Go.ChangeAt Go.RowKit Sha Nte
section
variable {H : Type} {enc : TypeId × Value → H} {P : Program} {w : World} {base : Nat} {spare : Nat → Bool} {held : Bool}
/-- An array of bytes in memory. -/
theorem cells_bytesK {t e : TypeId} {n fuel : Nat} {cs : List Value} {x : DataW H × List MemPlace} (ht : P.underlying t = some (.array n e)) (he : P.underlying e = some (.int .u8)) (hce : P.cellsOf e = 1) (hct : P.cellsOf t = n)
    (hf : DataW.trod enc P w base spare held fuel t cs = some x) :
    ∃ xs : List Int, cs = xs.map v8 ∧ xs.length = n ∧ (∀ m ∈ xs, 0 ≤ m ∧ m ≤ 255) := by
  obtain ⟨ys, m, _, hx, hl, hyl, hel⟩ := DataW.trod_array ht hf
  simp only [hce, Nat.mul_one] at hel
  have hcl : cs.length = n := by rw [hl, hct]
  have each : ∀ i, i < n → ∃ z, cs[i]? = some (.int .u8 z) ∧ 0 ≤ z ∧ z ≤ 255 := by
    intro i hi
    have h1 := hel i hi
    obtain ⟨y, hy⟩ : ∃ y, ys[i]? = some y := ⟨ys[i], List.getElem?_eq_getElem (by omega)⟩
    rw [hy] at h1
    obtain ⟨z, hc, rfl, hwf⟩ := DataW.trod_int he h1
    refine ⟨z, ?_, bounds_u8 hwf⟩
    have := congrArg (·[0]?) hc
    simpa [List.getElem?_take, List.getElem?_drop] using this
  refine ⟨(cs.map fun c => match c with | .int _ z => z | _ => 0), ?_, by simpa using hcl, ?_⟩
  · simp only [List.map_map]
    apply List.ext_getElem?
    intro i
    rw [List.getElem?_map]
    by_cases hi : i < n
    · obtain ⟨z, hz, _⟩ := each i hi
      simp [hz, v8]
    · rw [List.getElem?_eq_none (by omega)]; rfl
  · intro q hq
    obtain ⟨c, hc, rfl⟩ := List.mem_map.1 hq
    obtain ⟨i, hi, hci⟩ := List.mem_iff_getElem.1 hc
    obtain ⟨z, hz, hb⟩ := each i (by omega)
    rw [List.getElem?_eq_getElem hi, hci] at hz
    cases hz
    exact hb
/-- A slice of things that hold no slices themselves. -/
theorem open_rowsK {V : Type} [Inhabited V] (S : Shp V) {t e : TypeId} {fuel : Nat} {cs : List Value} {x : DataW H × List MemPlace} (ht : P.underlying t = some (.slice e)) (hc : P.cellsOf e = S.n) (hb : ∀ y, S.byt y = [])
    (he : ∀ (n : Nat) (cs : List Value) (x : DataW H × List MemPlace), DataW.trod enc P w base spare held n e cs = some x → ∃ y : V, cs = S.cells y none 0 ∧ S.ok y) (hf : DataW.trod enc P w base spare held fuel t cs = some x) :
    ∃ (q : Option Addr) (l : List V) (c : Nat), cs = [.slice q l.length c] ∧ S.Told w q l.length c l := by
  rcases Deep.open_slice ht hf with ⟨hcs, hx⟩ | ⟨a, len, cap, m, n, D, Pl, hcs, _, hl, hm, hmm, hx, hel⟩
  · exact ⟨none, [], 0, hcs, Shp.Told.none_ w⟩
  · have hlm : len ≤ m := by rw [hmm]; split <;> omega
    have key : ∀ i, i < len → ∃ y : V, w.cells? base (a.add (i * S.n)) S.n = some (S.cells y none 0) ∧ S.ok y := by
      intro i hi
      obtain ⟨cs', h1, h2⟩ := hel i (by omega)
      rw [hc] at h1
      obtain ⟨y, rfl, hg⟩ := he _ _ _ h2
      exact ⟨y, h1, hg⟩
    obtain ⟨f, hF⟩ := Deep.choose_lt key
    have hlen : ((List.range len).map f).length = len := by simp
    refine ⟨some a, (List.range len).map f, cap, by rw [hlen]; exact hcs, by rw [hlen], by rw [hlen]; exact hl, by unfold maxLen at hm; omega, (fun h => by cases h), ((List.range len).map f).map (fun y => (y, none, 0)), by simp, ?_, ?_⟩
    · by_cases h0 : len = 0
      · subst h0; exact At.nil _ _
      · have hpos := S.pos
        have hl0 : (S.cells (f 0) none 0).length = S.n := S.len none 0 (hF 0 (by omega)).2
        obtain ⟨u, hu⟩ : ∃ u, (S.cells (f 0) none 0)[0]? = some u := ⟨_, List.getElem?_eq_getElem (by omega)⟩
        have h1 := (World.cells?_some (hF 0 (by omega)).1).2.2 0 (by omega)
        have hsp : a.spot = none := by
          have e : (a.add (0 * S.n)).add 0 = a := by simp [Addr.add]
          rw [e, hu] at h1
          cases hs : a.spot with
          | none => rfl
          | some s =>
            unfold World.cell? at h1
            split at h1
            · simp [hs] at h1
            · cases h1
        obtain ⟨b, off, sp⟩ := a
        simp only at hsp
        subst hsp
        refine Or.inr ⟨b, off, rfl, fun j v hj => ?_⟩
        have hok : ∀ y ∈ (((List.range len).map f).map (fun y => ((y, none, 0) : Hd V))), S.ok y.1 := by
          intro y hy
          obtain ⟨z, hz, rfl⟩ := List.mem_map.1 hy
          obtain ⟨i, hi, rfl⟩ := List.mem_map.1 hz
          exact (hF i (List.mem_range.1 hi)).2
        have hjl := (List.getElem?_eq_some_iff.1 hj).1
        rw [Shp.flat_length _ hok] at hjl
        simp only [List.length_map, List.length_range] at hjl
        have hi : j / S.n < len := Nat.div_lt_of_lt_mul (by rw [Nat.mul_comm]; exact hjl)
        have hr : j % S.n < S.n := Nat.mod_lt _ hpos
        have hjj : j / S.n * S.n + j % S.n = j := by rw [Nat.mul_comm]; exact Nat.div_add_mod j S.n
        have hli : (S.cells (f (j / S.n)) none 0).length = S.n := S.len none 0 (hF _ hi).2
        obtain ⟨u', hu'⟩ : ∃ u, (S.cells (f (j / S.n)) none 0)[j % S.n]? = some u := ⟨_, List.getElem?_eq_getElem (by omega)⟩
        have h3 := Shp.flat_get (S := S) _ hok (j / S.n) (by simpa using hi) (j % S.n) u' (by simpa [Shp.row] using hu')
        rw [hjj, hj] at h3
        cases h3
        have h2 := (World.cells?_some (hF _ hi).1).2.2 (j % S.n) (by omega)
        rw [Addr.add_mid, Addr.add_mid, Nat.add_assoc, hjj] at h2
        rw [h2]
        exact hu'
    · intro y hy
      obtain ⟨z, hz, rfl⟩ := List.mem_map.1 hy
      obtain ⟨i, hi, rfl⟩ := List.mem_map.1 hz
      exact ⟨(hF i (List.mem_range.1 hi)).2, by rw [hb]; exact At.nil _ _, by rw [hb]; simp, by simp, fun _ => rfl⟩
theorem trod_struct13 {t : TypeId} {f0 f1 f2 f3 f4 f5 f6 f7 f8 f9 f10 f11 f12 : Field} {fuel : Nat} {cs : List Value} {x : DataW H × List MemPlace} (ht : P.underlying t = some (.struct #[f0, f1, f2, f3, f4, f5, f6, f7, f8, f9, f10, f11, f12])) (h : DataW.trod enc P w base spare held fuel t cs = some x) :
    ∃ n, cs.length = P.cellsOf t ∧ ∀ f ∈ [f0, f1, f2, f3, f4, f5, f6, f7, f8, f9, f10, f11, f12], ∃ y, DataW.trod enc P w base spare held n f.type ((cs.drop f.offset).take (P.cellsOf f.type)) = some y := by
  obtain ⟨xs, n, _, rfl, hl, hlen, hf⟩ := DataW.trod_struct ht h
  refine ⟨n, hl, fun f hm => ?_⟩
  obtain ⟨i, hi, rfl⟩ := List.mem_iff_getElem.1 hm
  have h1 := hf i [f0, f1, f2, f3, f4, f5, f6, f7, f8, f9, f10, f11, f12][i] (by rw [List.getElem?_toArray]; exact List.getElem?_eq_getElem hi)
  obtain ⟨y, hy⟩ : ∃ y, xs[i]? = some y := ⟨_, List.getElem?_eq_getElem (by simp at hlen hi; omega)⟩
  rw [hy] at h1
  exact ⟨y, h1⟩
end
section
variable {H : Type} {enc : TypeId × Value → H} {w : World} {base : Nat} {spare : Nat → Bool} {held : Bool}
theorem ck32 : Try.prog.cellsOf 27 = 32 := by kernel_rfl
theorem ckB : Try.prog.cellsOf 5 = 1 := by kernel_rfl
theorem ckI : Try.prog.cellsOf 3 = 1 := by kernel_rfl
theorem ckN : Try.prog.cellsOf 32 = 48 := by kernel_rfl
theorem ckC : Try.prog.cellsOf 23 = 3 := by kernel_rfl
theorem ckL : Try.prog.cellsOf 25 = 2 := by kernel_rfl
theorem ckY : Try.prog.cellsOf 4 = 1 := by kernel_rfl
theorem ckX : Try.prog.cellsOf 28 = 1 := by kernel_rfl
theorem ckD : Try.prog.cellsOf 29 = 1 := by kernel_rfl
theorem ckW : Try.prog.cellsOf 30 = 1 := by kernel_rfl
theorem ckM : Try.prog.cellsOf 67 = 3 := by kernel_rfl
theorem three_cells {cs : List Value} {a b c : Value} (hl : cs.length = 3) (h0 : (cs.drop 0).take 1 = [a]) (h1 : (cs.drop 1).take 1 = [b]) (h2 : (cs.drop 2).take 1 = [c]) : cs = [a, b, c] := by
  match cs, hl with
  | [x, y, z], _ => simp at h0 h1 h2; rw [h0, h1, h2]
theorem two_cells {cs : List Value} {a b : Value} (hl : cs.length = 2) (h0 : (cs.drop 0).take 1 = [a]) (h1 : (cs.drop 1).take 1 = [b]) : cs = [a, b] := by
  match cs, hl with
  | [x, y], _ => simp at h0 h1; rw [h0, h1]
theorem open_wordK (n : Nat) (cs : List Value) (x : DataW H × List MemPlace) (h : DataW.trod enc Try.prog w base spare held n 67 cs = some x) : ∃ m : Mb, cs = sW.cells m none 0 ∧ sW.ok m := by
  obtain ⟨y0, y1, y2, n, _, hl, h0, h1, h2⟩ := Deep.trod_struct3 Try.underlying67 h
  have h0' : DataW.trod enc Try.prog w base spare held n 3 ((cs.drop 0).take 1) = some y0 := by rw [← ckI]; exact h0
  have h1' : DataW.trod enc Try.prog w base spare held n 3 ((cs.drop 1).take 1) = some y1 := by rw [← ckI]; exact h1
  have h2' : DataW.trod enc Try.prog w base spare held n 3 ((cs.drop 2).take 1) = some y2 := by rw [← ckI]; exact h2
  rw [ckM] at hl
  obtain ⟨I, c0, _, hw0⟩ := DataW.trod_int Try.underlying3 h0'
  obtain ⟨S, c1, _, hw1⟩ := DataW.trod_int Try.underlying3 h1'
  obtain ⟨N, c2, _, hw2⟩ := DataW.trod_int Try.underlying3 h2'
  exact ⟨⟨I, S, N⟩, three_cells hl c0 c1 c2, ⟨bounds_i64 hw0, bounds_i64 hw1, bounds_i64 hw2⟩⟩
theorem open_idK (n : Nat) (cs : List Value) (x : DataW H × List MemPlace) (h : DataW.trod enc Try.prog w base spare held n 27 cs = some x) : ∃ d : List Int, cs = sI.cells d none 0 ∧ sI.ok d := by
  obtain ⟨D, c, hD, hDb⟩ := cells_bytesK Try.underlying27 Try.underlying5 ckB ck32 h
  exact ⟨D, c, hDb, hD⟩
instance : Inhabited Mb := ⟨Mb.none⟩
theorem open_noteK {fuel : Nat} {cs : List Value} {x : DataW H × List MemPlace} (h : DataW.trod enc Try.prog w base spare held fuel 32 cs = some x) : ∃ (y : Not) (k : NHd), cs = ncells y k ∧ NGood w y k := by
  obtain ⟨n, hl, hf⟩ := trod_struct13 Try.underlying32 h
  rw [ckN] at hl
  clear h
  simp only [List.forall_mem_cons] at hf
  obtain ⟨⟨z0, h0⟩, ⟨z1, h1⟩, ⟨z2, h2⟩, ⟨z3, h3⟩, ⟨z4, h4⟩, ⟨z5, h5⟩, ⟨z6, h6⟩, ⟨z7, h7⟩, ⟨z8, h8⟩, ⟨z9, h9⟩, ⟨z10, h10⟩, ⟨z11, h11⟩, ⟨z12, h12⟩, _⟩ := hf
  have h0' : DataW.trod enc Try.prog w base spare held n 3 ((cs.drop 0).take 1) = some z0 := by rw [← ckI]; exact h0
  have h1' : DataW.trod enc Try.prog w base spare held n 3 ((cs.drop 1).take 1) = some z1 := by rw [← ckI]; exact h1
  have h2' : DataW.trod enc Try.prog w base spare held n 3 ((cs.drop 2).take 1) = some z2 := by rw [← ckI]; exact h2
  have h3' : DataW.trod enc Try.prog w base spare held n 23 ((cs.drop 3).take 3) = some z3 := by rw [← ckC]; exact h3
  have h4' : DataW.trod enc Try.prog w base spare held n 3 ((cs.drop 6).take 1) = some z4 := by rw [← ckI]; exact h4
  have h5' : DataW.trod enc Try.prog w base spare held n 3 ((cs.drop 7).take 1) = some z5 := by rw [← ckI]; exact h5
  have h6' : DataW.trod enc Try.prog w base spare held n 25 ((cs.drop 8).take 2) = some z6 := by rw [← ckL]; exact h6
  have h7' : DataW.trod enc Try.prog w base spare held n 25 ((cs.drop 10).take 2) = some z7 := by rw [← ckL]; exact h7
  have h8' : DataW.trod enc Try.prog w base spare held n 4 ((cs.drop 12).take 1) = some z8 := by rw [← ckY]; exact h8
  have h9' : DataW.trod enc Try.prog w base spare held n 27 ((cs.drop 13).take 32) = some z9 := by rw [← ck32]; exact h9
  have h10' : DataW.trod enc Try.prog w base spare held n 28 ((cs.drop 45).take 1) = some z10 := by rw [← ckX]; exact h10
  have h11' : DataW.trod enc Try.prog w base spare held n 29 ((cs.drop 46).take 1) = some z11 := by rw [← ckD]; exact h11
  have h12' : DataW.trod enc Try.prog w base spare held n 30 ((cs.drop 47).take 1) = some z12 := by rw [← ckW]; exact h12
  clear h0 h1 h2 h3 h4 h5 h6 h7 h8 h9 h10 h11 h12
  obtain ⟨K, c0, _, b0⟩ := DataW.trod_int Try.underlying3 h0'
  obtain ⟨F, c1, _, b1⟩ := DataW.trod_int Try.underlying3 h1'
  obtain ⟨T, c2, _, b2⟩ := DataW.trod_int Try.underlying3 h2'
  obtain ⟨C1, C2, C3, c3, b31, b32, b33⟩ : ∃ C1 C2 C3 : Int, (cs.drop 3).take 3 = [nic C1, nic C2, nic C3] ∧ fit C1 ∧ fit C2 ∧ fit C3 := by
    obtain ⟨y0, y1, y2, n', _, hl', g0, g1, g2⟩ := Deep.trod_struct3 Try.underlying23 h3'
    have g0' : DataW.trod enc Try.prog w base spare held n' 3 ((((cs.drop 3).take 3).drop 0).take 1) = some y0 := by rw [← ckI]; exact g0
    have g1' : DataW.trod enc Try.prog w base spare held n' 3 ((((cs.drop 3).take 3).drop 1).take 1) = some y1 := by rw [← ckI]; exact g1
    have g2' : DataW.trod enc Try.prog w base spare held n' 3 ((((cs.drop 3).take 3).drop 2).take 1) = some y2 := by rw [← ckI]; exact g2
    obtain ⟨I, e0, _, hw0⟩ := DataW.trod_int Try.underlying3 g0'
    obtain ⟨S, e1, _, hw1⟩ := DataW.trod_int Try.underlying3 g1'
    obtain ⟨N, e2, _, hw2⟩ := DataW.trod_int Try.underlying3 g2'
    exact ⟨I, S, N, three_cells (by rw [List.length_take, List.length_drop]; omega) e0 e1 e2, bounds_i64 hw0, bounds_i64 hw1, bounds_i64 hw2⟩
  obtain ⟨S, c4, _, b4⟩ := DataW.trod_int Try.underlying3 h4'
  obtain ⟨Hm, c5, _, b5⟩ := DataW.trod_int Try.underlying3 h5'
  have ball : ∀ (o : Nat) (z : DataW H × List MemPlace), o + 2 ≤ 48 → DataW.trod enc Try.prog w base spare held n 25 ((cs.drop o).take 2) = some z → ∃ a b : Int, (cs.drop o).take 2 = [nic a, nic b] ∧ fit a ∧ fit b := by
    intro o z ho hz
    obtain ⟨y0, y1, n', _, hl', g0, g1⟩ := Go.ChangeShapes.trod_struct2 Try.underlying25 hz
    have g0' : DataW.trod enc Try.prog w base spare held n' 3 ((((cs.drop o).take 2).drop 0).take 1) = some y0 := by rw [← ckI]; exact g0
    have g1' : DataW.trod enc Try.prog w base spare held n' 3 ((((cs.drop o).take 2).drop 1).take 1) = some y1 := by rw [← ckI]; exact g1
    obtain ⟨a, e0, _, hw0⟩ := DataW.trod_int Try.underlying3 g0'
    obtain ⟨b, e1, _, hw1⟩ := DataW.trod_int Try.underlying3 g1'
    exact ⟨a, b, two_cells (by rw [List.length_take, List.length_drop]; omega) e0 e1, bounds_i64 hw0, bounds_i64 hw1⟩
  obtain ⟨B1, B2, c6, b61, b62⟩ := ball 8 z6 (by omega) h6'
  obtain ⟨O1, O2, c7, b71, b72⟩ := ball 10 z7 (by omega) h7'
  obtain ⟨Y, c8, _⟩ := DataW.trod_bool Try.underlying4 h8'
  obtain ⟨D, c9, hD, hDb⟩ := cells_bytesK Try.underlying27 Try.underlying5 ckB ck32 h9'
  obtain ⟨q, X, cap, c10, hA, hle, hm, hn, hB⟩ := cells_bytesl Try.underlying28 Try.underlying5 ckB h10'
  obtain ⟨r, I, ci, c11, tI⟩ := open_rowsK sI Try.underlying29 ck32 (fun _ => rfl) open_idK h11'
  obtain ⟨s, W, cw, c12, tW⟩ := open_rowsK sW Try.underlying30 ckM (fun _ => rfl) open_wordK h12'
  clear h0' h1' h2' h3' h4' h5' h6' h7' h8' h9' h10' h11' h12' ball
  have st : ∀ o k p : Nat, o + k = p → cs.drop o = (cs.drop o).take k ++ cs.drop p := fun o k p e => by
    rw [← e, ← List.drop_drop, List.take_append_drop]
  have e : cs.drop 0 = ncells ⟨K, F, T, C1, C2, C3, S, Hm, B1, B2, O1, O2, Y, D, X, I, W⟩ ⟨q, cap, r, ci, s, cw⟩ := by
    rw [st 0 1 1 rfl, c0, st 1 1 2 rfl, c1, st 2 1 3 rfl, c2, st 3 3 6 rfl, c3, st 6 1 7 rfl, c4, st 7 1 8 rfl, c5, st 8 2 10 rfl, c6, st 10 2 12 rfl, c7, st 12 1 13 rfl, c8, st 13 32 45 rfl, c9, st 45 1 46 rfl, c10, st 46 1 47 rfl, c11, st 47 1 48 rfl, c12, List.drop_eq_nil_of_le (by omega)]
    simp [ncells]
  have hok : (⟨K, F, T, C1, C2, C3, S, Hm, B1, B2, O1, O2, Y, D, X, I, W⟩ : Not).ok := by
    have i2 := tI.le
    have i3 := tI.max
    have j2 := tW.le
    have j3 := tW.max
    refine ⟨bounds_i64 b0, bounds_i64 b1, bounds_i64 b2, ⟨b31, b32, b33⟩, bounds_i64 b4, bounds_i64 b5, ⟨b61, b62⟩, ⟨b71, b72⟩, hDb, hD, hB, ?_, fun d hd => tI.rows.ok d hd, by simp only; omega, fun m hm => tW.rows.ok m hm, by simp only; omega⟩
    unfold maxLen at hm
    simp only; omega
  exact ⟨_, _, e, ⟨hok, hA, hle, by unfold maxLen at hm; simp only; omega, hn, tI, tW⟩⟩
/-- A note among the arguments. -/
theorem open_note1 {r : Reach} {b0 : Nat} {v : Value} {d : DataW H} {p : List MemPlace} (hv : Value.okWide Try.prog w r b0 32 v) (h : DataW.Trod enc Try.prog w base spare held 32 v d p) :
    ∃ (x : Not) (k : NHd), v = .agg (ncells x k).toArray ∧ NGood w x k := by
  obtain ⟨cs, rfl, _⟩ := okWide_struct Try.underlying32 hv
  obtain ⟨fuel, hf⟩ := h
  obtain ⟨x, k, h1, h2⟩ := open_noteK hf
  exact ⟨x, k, by simp [Value.cells] at h1; rw [show (ncells x k) = cs.toList from h1.symm], h2⟩
end
end
end Go.Proofs.Yteepaoklibflpaa
