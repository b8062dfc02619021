/-
  The program's ring of texts: its list.
-/
import Derived.Test.YtnpageceaknofaaBgQT
import Derived.Deep.OwnRows
namespace Go.Proofs.Ytnpageceaknofaa
set_option linter.unusedSimpArgs false
set_option linter.unusedVariables false
open Go.RowKit Go.Shelf Sha Rin
attribute [local go_sem] Oper.semAt_some
def ListDoneT (l : List ByteArray) (N : Nat) (w : World) (e : Ending) (w' : World) : Prop :=
  ∃ G, e = .returned (.slice (some ⟨G, 0, none⟩) N N) ∧ w.heap.size ≤ G ∧ Blk w' G ((l ++ List.replicate (N - l.length) ByteArray.empty).map (Value.string)) 9 ∧ Below w.heap.size w w'
theorem infoT : (Try.prog.info? 9).map (fun i => (i.zero, i.size, i.bytes)) = some (some (Value.string ⟨#[]⟩), 1, 16) := by kernel_rfl
theorem madeT (n : Nat) : (madeCells #[(Value.string ⟨#[]⟩)] n).toList = (List.replicate n ByteArray.empty).map (Value.string) := by
  apply List.ext_getElem?
  intro i
  by_cases hi : i < n
  · simp [madeCells, hi, Nat.mod_one]; try rfl
  · simp [madeCells, hi]
theorem blk_fromT {β : Type} (B g : Nat) (t : TypeId) (f : β → List Value) : OwnFrom B (fun s W => Blk W g (f s) t) := fun s X Y row hs hg hr => by
  refine (hg.block g hs.lt fun e => ?_).trans hs
  obtain ⟨_, o, ho, hc⟩ := hr g e.symm
  rw [show X.heap[g]? = _ from hs] at ho; cases ho; cases hc
set_option maxRecDepth 100000 in
set_option maxHeartbeats 1000000 in
theorem listT_any (b g : Nat) (p : Option Addr) (c f n N : Nat) (l : List ByteArray) (w : World)
    (h2 : w.cell? ⟨b, 2, none⟩ = some (.slice p c c)) (h3 : w.cell? ⟨b, 3, none⟩ = some (.int .i64 f)) (h4 : w.cell? ⟨b, 4, none⟩ = some (.int .i64 n))
    (hp : p = none ∧ c = 0 ∨ p = some ⟨g, 0, none⟩) (cs : List ByteArray) (hcs : cs.length = c) (hln : l.length = n) (hr : Is cs f l) (hc : c ≤ 2000) (hg : ∀ j x, cs[j]? = some x → w.cell? ⟨g, j, none⟩ = some (Value.string x)) (hN : n ≤ N) (hN2 : N ≤ 2000) :
    Calls Try.prog 41 #[.pointer (some ⟨b, 2, none⟩), .int .i64 N] w (ListDoneT l N w) := by
  have hn := hr.le
  rw [hcs, hln] at hn
  have hf : f < c ∨ c = 0 ∧ f = 0 := by rw [← hcs]; exact hr.first
  have hrd : ∀ W, Below w.heap.size w W → ∀ k, readT g c f l k W := fun W hW k j hk hj => by
    have h1 := hr.at_ j l[j] (by simp [hj])
    have h5 := hg _ _ h1
    rw [hcs] at h5
    rw [(hW.cell (World.block_lt_of_cell? w _ h5)).trans h5, List.getD_eq_getElem?_getD, List.getElem?_eq_getElem hj]; rfl
  have HRD := Lib.hid hrd
  have HLN := Lib.hid hln
  have hmk := run_make_row' (P := Try.prog) 52 9 (Value.string ⟨#[]⟩) 16 Try.underlying52 infoT rfl .i64 .i64 N (by omega) (by omega)
  refine (callsIn_wide (n := 5)).1 ?_
  refine callsIn_of_wp_marks Try.func41 rfl trivial ?_ rfl
  simp only [Try.ntmps41, List.size_toArray, List.length_cons, List.length_nil, Nat.reduceAdd, Nat.reduceSub, Array.replicate_succ, Array.replicate_zero, List.push_toArray, List.append_toArray, List.nil_append, List.cons_append]
  gi_wp2_with (refine ⟨trivial, ?_⟩; gi_at_call 49; refine (eachFT_in 4 _ _).mono ?_; rintro e w' ⟨rfl, rfl⟩)
  have hb1 := Blk.new w (madeCells #[(Value.string ⟨#[]⟩)] N) 9
  rw [madeT] at hb1
  have hB1 := (Below.refl w.heap.size w).alloc (Nat.le_refl _) (Obj.cells (madeCells #[(Value.string ⟨#[]⟩)] N) 9)
  have hs1 := World.size_alloc w (Obj.cells (madeCells #[(Value.string ⟨#[]⟩)] N) 9)
  obtain ⟨w1, hw1⟩ : ∃ x, x = w.alloc (Obj.cells (madeCells #[(Value.string ⟨#[]⟩)] N) 9) := ⟨_, rfl⟩
  rw [← hw1] at hb1 hB1 hs1 ⊢
  have hb2 := Boxed.new w1 52 (.slice (some ⟨w.heap.size, 0, none⟩) N N)
  have hB2 := hB1.alloc (by omega) (Obj.cells #[.slice (some ⟨w.heap.size, 0, none⟩) N N] 52)
  have hs2 := World.size_alloc w1 (Obj.cells #[.slice (some ⟨w.heap.size, 0, none⟩) N N] 52)
  have hb12 := hb1.old (Obj.cells #[.slice (some ⟨w.heap.size, 0, none⟩) N N] 52)
  rw [hs1] at hb2
  obtain ⟨w2, hw2⟩ : ∃ x, x = w1.alloc (Obj.cells #[.slice (some ⟨w.heap.size, 0, none⟩) N N] 52) := ⟨_, rfl⟩
  rw [← hw2] at hb2 hB2 hs2 hb12 ⊢
  have hb3 := Boxed.new w2 85 (.pointer (some ⟨b, 2, none⟩))
  have hB3 := hB2.alloc (by omega) (Obj.cells #[.pointer (some ⟨b, 2, none⟩)] 85)
  have hs3 := World.size_alloc w2 (Obj.cells #[.pointer (some ⟨b, 2, none⟩)] 85)
  have hb13 := hb12.old (Obj.cells #[.pointer (some ⟨b, 2, none⟩)] 85)
  have hb23 := hb2.alloc (Obj.cells #[.pointer (some ⟨b, 2, none⟩)] 85)
  rw [hs2, hs1] at hb3
  obtain ⟨w3, hw3⟩ : ∃ x, x = w2.alloc (Obj.cells #[.pointer (some ⟨b, 2, none⟩)] 85) := ⟨_, rfl⟩
  rw [← hw3] at hb3 hB3 hs3 hb13 hb23 ⊢
  clear hw1 hw2 hw3 hmk hb1 hb2 hb12 hB1 hB2
  have hsz : w3.heap.size = w.heap.size + 1 + 1 + 1 := by omega
  have hkeep : ∀ a v, w.cell? a = some v → w3.cell? a = some v := fun a v h => (hB3.cell (World.block_lt_of_cell? w a h)).trans h
  have k2 := hkeep _ _ h2
  have k3 := hkeep _ _ h3
  have k4 := hkeep _ _ h4
  clear hkeep hs1 hs2 hs3 h2 h3 h4 hg hrd
  refine wpIn_range_says rfl (by omega) (gf := 53) (lb := #[.pointer (some ⟨w.heap.size + 1 + 1, 0, none⟩)]) rfl trivial (enters_of Try.func53 (by kernel_rfl) rfl)
    (eachT_in 4 (by omega) b g (w.heap.size + 1 + 1) p c f n l w3 hb3.cell k2 k3 k4 hp hln hn hf hc) (Below.refl _ _) (fun _ => rfl)
    (fun k W => Boxed W (w.heap.size + 1) 52 (.slice (some ⟨w.heap.size, 0, none⟩) N N) ∧ Blk W w.heap.size ((l.take k ++ List.replicate (N - k) ByteArray.empty).map (Value.string)) 9 ∧ Below w.heap.size w W)
    (fun _ _ _ => False)
    (OwnFrom.and (Own.from (boxed_own (w.heap.size + 1) 52 (fun _ => .slice (some ⟨w.heap.size, 0, none⟩) N N)) _) (OwnFrom.and (blk_fromT _ _ _ (fun k : Nat => (l.take k ++ List.replicate (N - k) ByteArray.empty).map (Value.string))) (ownFrom_below (by omega) (by omega))))
    (fun _ _ _ _ _ hs _ _ => hs)
    (fun k W h => HRD.out W h.2.2 k)
    ⟨hb23, by simpa using hb13, hB3⟩
    (fun k a' _ => a' = { tmps := #[Value.pointer (some ⟨b, 2, none⟩), Value.int IntKind.i64 N, undef, undef, Value.slice none 0 0, Value.pointer (some ⟨w.heap.size + 1, 0, none⟩), .int .i64 k, Value.string (l.getD k ByteArray.empty), Value.int IntKind.i64 N, Value.slice (some ⟨w.heap.size, 0, none⟩) N N, Value.pointer (some ⟨b, 2, none⟩),
          Value.func (Fn.func 53) #[] #[Value.pointer (some ⟨w.heap.size + 1 + 1, 0, none⟩)], .int .i64 k, Value.string (l.getD k ByteArray.empty), undef, undef, undef, undef, undef], defers := [] })
    (fun k a' => fun _ _ _ _ hs _ _ => hs)
    ?assign ?body ?done ?stop
  case assign =>
    intro lp k W K hI hK
    unfold tellT
    gi_wp2
    exact hK _ _ (KeepsFrom.refl _ _) hI rfl
  case body =>
    rintro lp k a' W hl hrec hk ⟨hbx, hbk, hbl⟩ rfl
    have c0 := hbx.cell
    have c1 : W.cell? ⟨w.heap.size, k, none⟩ = some (Value.string ⟨#[]⟩) := by
      rw [hbk.cell, List.getElem?_map, laid_at l ByteArray.empty N k (by omega) (by omega)]; rfl
    have f1 : W.frozen? ⟨w.heap.size, k, none⟩ = false := hbk.free k
    have hb4 := hbk.set k (Value.string (l.getD k ByteArray.empty))
    rw [← List.map_set, laid_set l ByteArray.empty N k (by omega) (by omega)] at hb4
    have hx4 := hbx.other (B' := w.heap.size) (by omega) (Value.string (l.getD k ByteArray.empty))
    have HB4 := Lib.hid hb4
    have HBL := Lib.hid (hbl.setCell (p := ⟨w.heap.size, k, none⟩) (Nat.le_refl _) (Value.string (l.getD k ByteArray.empty)))
    have hi2 : (k : Int) < (N : Int) := by omega
    have hx4' : Boxed (W.setCell ⟨w.heap.size, k, none⟩ (Value.string (l.getD k ByteArray.empty))) (w.heap.size + 1) 52 (.slice (some ⟨w.heap.size, 0, none⟩) N N) :=
      (Below.heap_setCell _ _ _ _ (by simp)).trans hbx
    have HX4 := Lib.hid hx4'
    generalize l.getD k ByteArray.empty = x at *
    clear hb4 hx4 hx4'
    gi_wp2
    exact ⟨(KeepsOthers.setCell _ _ _).from _, HX4.out, HB4.out, HBL.out⟩
  case done =>
    rintro D W hD ⟨hbx, hbk, hbl⟩ hdf
    have c0 := hbx.cell
    gi_wp2
    refine ⟨by simp, .inl ⟨_, _, rfl, run_takeDeferred hdf, ?_⟩⟩
    refine ⟨_, results_tmp rfl _ _ _, ?_⟩
    refine ⟨w.heap.size, rfl, Nat.le_refl _, ?_, hbl.trans (belowK_b (w := w3) (by omega) W D _ _ hD hdf rfl rfl)⟩
    rw [List.take_of_length_le (by omega)] at hbk
    rw [hln]
    exact (World.putObj_heap_other (by have := hbk.lt; omega)).trans hbk
  case stop =>
    rintro D c' k W hD hk h hdf
    exact h.elim
end Go.Proofs.Ytnpageceaknofaa
