/-
  What Put answers.
-/
import Derived.Test.YtgakmkglejddeaaFldH
import Derived.Test.YtgakmkglejddeaaFldWa
namespace Go.Proofs.Ytgakmkglejddeaa
set_option linter.unusedSimpArgs false
set_option linter.unusedVariables false
open Go.RowKit Sha
open Fld (Itm)
theorem wmem_below {B ga : Nat} {L v : Value} {out : List Int} {w w' : World} (h : WMem B ga L v out w) (hc : CellsKept w w') : WMem B ga L v out w' := h.carry hc
theorem WSt.keepA {w0 w : World} {ga : Nat} {st : List Int × List Itm} {p : Option Addr} {c : Nat} {v : Value} (h : WSt w0 ga st p c v w) (o : Obj) : WSt w0 ga st p c v (w.alloc o) :=
  ⟨h.mem.carry (cells_alloc w o), h.items, h.le, h.max, h.nil, h.below.alloc h.mem.size o, h.small⟩
theorem WSt.keepI {w0 w : World} {ga : Nat} {st : List Int × List Itm} {p : Option Addr} {c : Nat} {v : Value} (h : WSt w0 ga st p c v w) {gi : Nat} {s : ByteArray} {k : Nat} (hg : w0.heap.size ≤ gi) (hi : w.heap[gi]? = some (.stringIter s k)) (k' : Nat) : WSt w0 ga st p c v (w.iterAt gi s k') :=
  ⟨h.mem.carry (cells_iterAt hi k'), h.items, h.le, h.max, h.nil, Lib.below_iterAt h.below hg s k', h.small⟩
theorem putS_lim (c : Int) (st : List Int × List Itm) (h : ∀ x ∈ st.2, x.ok) : (Fld.putS c st).2.1 ≤ 9223372036854775807 ∧ -9223372036854775808 ≤ (Fld.putS c st).2.1 := by
  obtain ⟨out, l⟩ := st
  cases l with
  | nil => simp [Fld.putS]
  | cons x l =>
    have hx := h x (List.mem_cons_self ..)
    have := hx.N0
    have := hx.N1
    unfold Fld.putS
    simp only
    repeat' split
    all_goals simp only []
    all_goals omega
theorem doer_w (w0 : World) (ga : Nat) : Doer Try.prog 26 ga w0.heap.size Fld.putS (WAt w0 ga) where
  step c st w hc hR := (put_any w0 ga c hc st w hR).mono fun e w' ⟨he, hr, ho⟩ => ⟨he, hr, iters_of ho (by obtain ⟨p, c, v, h⟩ := hR; exact ⟨_, _, h.mem.blk⟩)⟩
  keepA st w o h := by obtain ⟨p, c, v, h⟩ := h; exact ⟨p, c, v, h.keepA o⟩
  keepI st w gi s p p' h hg hi := by obtain ⟨q, c, v, h⟩ := h; exact ⟨q, c, v, h.keepI hg hi p'⟩
  base st w h := by obtain ⟨p, c, v, h⟩ := h; exact h.mem.size
  lim c st w h := by obtain ⟨p, cc, v, h⟩ := h; exact putS_lim c st h.items.ok
/-- What Put leaves: bytes of its own, and an error. -/
def PutDone (w0 : World) (r : List Int × Int) (e : Ending) (w : World) : Prop :=
  ∃ v, e = .returned (.tuple #[v, .int .i64 r.2]) ∧ Own8 w w0.heap.size 5 v r.1.length (r.1.map v8) ∧ Below w0.heap.size w0 w
theorem put_bad {s : List Int} {l : List Itm} (h : Fld.chk s = false) : Fld.put s l = ([], 2) := by simp [Fld.put, h]
theorem put_walked {s : List Int} {l : List Itm} (h : Fld.chk s = true) {st : List Int × List Itm} {e : Int} (hw : Fld.walkL Fld.putS none 0 s ([], l) = (st, e)) :
    Fld.put s l = if e = 0 then (if st.2 = [] then (st.1, 0) else ([], 2)) else ([], e) := by simp [Fld.put, h, hw]
theorem writer_zero : Try.prog.built 52 [(0, .slice none 0 0)] = some #[.slice none 0 0, .slice none 0 0] := by kernel_rfl
set_option maxRecDepth 100000 in
set_option maxHeartbeats 2000000 in
theorem putF_bad (s : ByteArray) (hs : s.size ≤ maxLen) (p : Option Addr) (n c : Nat) (w : World) (l : List Itm) (hc : Fld.chk (nums s) = false) :
    Calls Try.prog 11 #[.string s, .slice p n c] w (PutDone w (Fld.put (nums s) l)) := by
  have HP := Lib.hid (put_bad (l := l) hc)
  have HE := Lib.hid (Fld.chkE_no hc)
  clear hc
  go_enter Try.func11, Try.ntmps11
  go_wp2_with (go_at_call 14; refine (check_any s w hs).mono ?_; rw [HE.out]; rintro e w1 ⟨rfl, hb1⟩)
  go_ret2
  exact ⟨.slice none 0 0, by rw [HP.out]; rfl, by rw [HP.out]; exact Own8.nil _ _ _, hb1⟩
set_option maxRecDepth 100000 in
set_option maxHeartbeats 2000000 in
theorem putF_any (s : ByteArray) (hs : s.size ≤ maxLen) (l : List Itm) (p : Option Addr) (n c : Nat) (w : World) (hn : n = l.length) (hi : ItemsAt w p l) (hle : n ≤ c) (hm : c ≤ 9223372036854775807) (hp : p = none → c = 0) (hsm : n ≤ 100000) :
    Calls Try.prog 11 #[.string s, .slice p n c] w (PutDone w (Fld.put (nums s) l)) := by
  subst hn
  by_cases hc : Fld.chk (nums s) = true
  · have HE := Lib.hid (Fld.chkE_ok hc)
    have HC := Lib.hid (chk_len hc)
    have hsl : s.size ≤ 40 := by have := HC.out.1; rwa [nums_length] at this
    obtain ⟨⟨st, er⟩, hr⟩ : ∃ r, r = Fld.walkL Fld.putS none 0 (nums s) ([], l) := ⟨_, rfl⟩
    have HP := Lib.hid (put_walked hc hr.symm)
    have HR := Lib.hid hr
    have HI := Lib.hid hi
    have HPN := Lib.hid hp
    clear hc hr hi hp
    go_enter Try.func11, Try.ntmps11
    go_wp2_with (first
      | (go_at_call 14; refine (check_any s w hs).mono ?_; rw [HE.out]; rintro e w1 ⟨rfl, hb1⟩))
    have hst : WAt w w1.heap.size ([], l) (w1.alloc (Obj.cells #[Value.slice p l.length c, Value.slice none 0 0] 52)) :=
      ⟨p, c, .slice none 0 0, ⟨by simpa using Blk.new w1 #[Value.slice p l.length c, Value.slice none 0 0] 52, Own8.nil _ _ _, hb1.size, by simp; have := hb1.size; omega⟩, HI.out, hle, hm, HPN.out, hb1.alloc hb1.size _, by simp; omega⟩
    refine (walk_w (doer_w w w1.heap.size) s hsl HC.out.2 ([], l) _ hst).mono ?_
    rw [← HR.out]
    rintro e w2 ⟨rfl, hs2, _⟩
    clear hst hb1
    generalize w1.heap.size = ga at *
    obtain ⟨out, l2⟩ := st
    obtain ⟨p2, c2, v2, hs2⟩ := hs2
    have a0 : w2.cell? ⟨ga, 0, none⟩ = some (.slice p2 l2.length c2) := hs2.mem.blk.cell 0
    have a1 : w2.cell? ⟨ga, 1, none⟩ = some v2 := hs2.mem.blk.cell 1
    have HS2 := Lib.hid hs2
    clear hs2
    by_cases he : er = 0
    · subst he
      by_cases h2 : l2 = []
      · subst h2
        have HP2 := Lib.hid (HP.out.trans (by simp : _ = (out, (0 : Int))))
        go_wp2_with fail
        go_ret2
        exact ⟨v2, by rw [HP2.out]; rfl, by rw [HP2.out]; exact HS2.out.mem.own, HS2.out.below⟩
      · have h3 : 0 < l2.length := List.length_pos_iff.2 h2
        have HP2 := Lib.hid (HP.out.trans (by simp [h2] : _ = (([] : List Int), (2 : Int))))
        clear h2
        go_wp2_with fail
        go_ret2
        exact ⟨.slice none 0 0, by rw [HP2.out]; rfl, by rw [HP2.out]; exact Own8.nil _ _ _, HS2.out.below⟩
    · have he' : (er == 0) = false := by simpa using he
      have HP2 := Lib.hid (HP.out.trans (by simp [he] : _ = (([] : List Int), er)))
      clear he
      go_wp2_with fail
      go_ret2
      exact ⟨.slice none 0 0, by rw [HP2.out]; rfl, by rw [HP2.out]; exact Own8.nil _ _ _, HS2.out.below⟩
  · exact putF_bad s hs p _ c w l (by simpa using hc)
end Go.Proofs.Ytgakmkglejddeaa
