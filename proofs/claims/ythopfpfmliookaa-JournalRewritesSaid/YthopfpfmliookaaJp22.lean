/-
  The program's journals: how they lie in memory; whether there is one, its disk, steps done till one fails, its iterator.
-/
import Derived.Test.YthopfpfmliookaaJp21
namespace Go.Proofs.Ythopfpfmliookaa
section
set_option linter.unusedSimpArgs false
set_option linter.unusedVariables false
open Go.RowKit Go.Shelf Sha Dsk Jrn
attribute [local go_sem] Oper.semAt_some
theorem info_journal : ∃ j, Try.prog.info? 28 = some j := by
  have h : (Try.prog.info? 28).isSome = true := by kernel_rfl
  exact Option.isSome_iff_exists.1 h
abbrev jcells (b bd : Nat) (v : Value) : List Value := [optr b, optr bd, v]
/-- The program's journal: its block, its records. -/
structure PJ (w : World) (b bd : Nat) (v : Value) (ys : List SHdr) : Prop where
  blk : Blk w b (jcells b bd v) 28
  own : OwnS 0 w v ys
def fpJ (b : Nat) (v : Value) (ys : List SHdr) : List Nat := b :: (v.ownBlock.toList ++ ys.flatMap fun y => (cellS y).ownBlock.toList)
def ProgJournal : JRep := fun w b fj x => ∃ v ys, fj = fpJ b v ys ∧ x.1 = ys.map (·.1) ∧ PJ w b x.2 v ys
theorem fpJ_mem {b k : Nat} {v : Value} {ys : List SHdr} : k ∈ fpJ b v ys ↔ k = b ∨ v.ownBlock = some k ∨ ∃ y ∈ ys, (cellS y).ownBlock = some k := by
  unfold fpJ; simp [Option.mem_toList]
theorem OwnS.blocks {B : Nat} {w w' : World} {v : Value} {ys : List SHdr} (h : OwnS B w v ys) (h1 : ∀ g, v.ownBlock = some g → w'.heap[g]? = w.heap[g]?) (h2 : ∀ y ∈ ys, ∀ g, (cellS y).ownBlock = some g → w'.heap[g]? = w.heap[g]?) : OwnS B w' v ys :=
  ⟨row_blocks8 h.own h1, fun y hy => ⟨(h.good y hy).bytes, row_blocks8 (h.good y hy).own (h2 y hy)⟩⟩
theorem own_type {w : World} {B n : Nat} {e : TypeId} {v : Value} {xs : List Value} (h : w.ownsRow B e 1 v n xs) : ∀ g, v.ownBlock = some g → ∃ c fz, w.heap[g]? = some (Obj.cells c e fz) := by
  intro g hg
  rcases h.2 with ⟨hv, _⟩ | ⟨g', cap, cur, hv, _, hh, _⟩
  · rw [hv] at hg; cases hg
  · rw [hv] at hg; cases hg; exact ⟨_, _, hh⟩
theorem PJ.low {w : World} {b bd : Nat} {v : Value} {ys : List SHdr} (h : PJ w b bd v ys) : ∀ k ∈ fpJ b v ys, k < w.heap.size := by
  intro k hk
  rcases fpJ_mem.1 hk with rfl | hk | ⟨y, hy, hk⟩
  · exact h.blk.lt
  · exact (h.own.own.lt k hk).2
  · exact ((h.own.good y hy).own.lt k hk).2
theorem PJ.keep {w w' : World} {b bd : Nat} {v : Value} {ys : List SHdr} (h : PJ w b bd v ys) (hk : ∀ k ∈ fpJ b v ys, w'.heap[k]? = w.heap[k]?) : PJ w' b bd v ys :=
  ⟨(hk b (fpJ_mem.2 (.inl rfl))).trans h.blk, h.own.blocks (fun g hg => hk g (fpJ_mem.2 (.inr (.inl hg)))) fun y hy g hg => hk g (fpJ_mem.2 (.inr (.inr ⟨y, hy, hg⟩)))⟩
theorem progHeldJ : Held ProgJournal := ⟨fun h => by obtain ⟨v, ys, rfl, _, h⟩ := h; exact h.low, fun h hk => by obtain ⟨v, ys, rfl, e, h⟩ := h; exact ⟨v, ys, rfl, e, h.keep hk⟩⟩
theorem PJ.nv {w : World} {b bd : Nat} {v : Value} {ys : List SHdr} (h : PJ w b bd v ys) : v.ownBlock ≠ some b := fun e => by
  obtain ⟨c, fz, hh⟩ := own_type h.own.own b e
  rw [show w.heap[b]? = _ from h.blk] at hh
  injection hh with hh; injection hh with _ ht
  exact absurd ht (by decide)
theorem PJ.ny {w : World} {b bd : Nat} {v : Value} {ys : List SHdr} (h : PJ w b bd v ys) : ∀ y ∈ ys, (cellS y).ownBlock ≠ some b := fun y hy e => by
  obtain ⟨c, fz, hh⟩ := own_type (h.own.good y hy).own b e
  rw [show w.heap[b]? = _ from h.blk] at hh
  injection hh with hh; injection hh with _ ht
  exact absurd ht (by decide)
/-- The journal's own block alone says that there is one. -/
theorem pjnone_any (b bd : Nat) (v : Value) (w : World) (h : Blk w b (jcells b bd v) 28) :
    Calls Try.prog 45 #[optr b] w fun e w' => e = .returned (.bool false) ∧ w' = w := by
  have c0 : w.cell? ⟨b, 0, none⟩ = some (optr b) := h.cell 0
  obtain ⟨j, hj⟩ := info_journal
  have hq := run_neq_ptr_sameD (P := Try.prog) ⟨b, 0, none⟩ Try.underlying24 hj
  clear h hj
  go_enter Try.func45, Try.ntmps45
  go_wp2_with fail
  go_ret
  exact ⟨rfl, rfl⟩
theorem pthere_any (b bd : Nat) (v : Value) (w : World) (h : Blk w b (jcells b bd v) 28) :
    Calls Try.prog 26 #[optr b] w fun e w' => e = .returned (i64v 0) ∧ w' = w := by
  have HC := Lib.hid (pjnone_any b bd v w h)
  clear h
  go_enter Try.func26, Try.ntmps26
  go_wp2_with fail
  refine HC.out.mono ?_
  rintro e w1 ⟨rfl, rfl⟩
  go_wp2_with fail
  go_ret
  exact ⟨rfl, rfl⟩
theorem pon_any (b bd : Nat) (v : Value) (w : World) (h : Blk w b (jcells b bd v) 28) :
    Calls Try.prog 24 #[optr b] w fun e w' => e = .returned (optr bd) ∧ w' = w := by
  have HC := Lib.hid (pjnone_any b bd v w h)
  have c1 : w.cell? ⟨b, 1, none⟩ = some (optr bd) := h.cell 1
  clear h
  go_enter Try.func24, Try.ntmps24
  go_wp2_with fail
  refine HC.out.mono ?_
  rintro e w1 ⟨rfl, rfl⟩
  go_wp2_with fail
  go_ret
  exact ⟨rfl, rfl⟩
/-- A step: a method, and what it is bound to. -/
abbrev StepV := Nat × Value
def stepCell (x : StepV) : Value := .func (.func x.1) #[x.2] #[]
set_option maxRecDepth 100000 in
set_option maxHeartbeats 1000000 in
/-- Steps done in their order, till one fails. -/
theorem first_any (fs : List StepV) (n : Nat) (p : Option Addr) (c : Nat) (w : World) (hn : fs.length = n) (hsm : n ≤ 100)
    (he : ∀ x ∈ fs, ∀ args w, (callFunc x.1 args).run Try.prog w = .ok (.enter x.1 args) w)
    (I : Nat → World → Prop) (Q : Int → World → Prop) (h0 : I 0 w) (hA : ∀ k W, k < n → I k W → At W p (fs.map stepCell))
    (hs : ∀ k x, fs[k]? = some x → ∀ W, I k W → Calls Try.prog x.1 #[x.2] W fun e W' => ∃ z : Int, e = .returned (i64v z) ∧ (z = 0 → I (k + 1) W') ∧ (z ≠ 0 → Q z W'))
    (hq : ∀ W, I n W → Q 0 W) :
    Calls Try.prog 25 #[.slice p n c] w fun e w' => ∃ z : Int, e = .returned (i64v z) ∧ Q z w' := by
  have HN := Lib.hid hn
  have HE := Lib.hid he
  have H0 := Lib.hid h0
  have HA := Lib.hid hA
  have HS := Lib.hid hs
  have HQ := Lib.hid hq
  clear hn he h0 hA hs hq
  go_enter Try.func25, Try.ntmps25
  go_wp2_with fail
  go_loopw [8] (fun i wr => ∃ k : Nat, i = .int .i64 k ∧ k ≤ n ∧ Hid (I k wr)) (fun i _ => n - (intOf i).toNat)
  case atStart => exact ⟨0, rfl, by omega, H0⟩
  case round =>
    obtain ⟨k, rfl, hk, S⟩ := hrel
    by_cases hlt : k < n
    · obtain ⟨F, rv, hx⟩ : ∃ F rv, fs[k]? = some (F, rv) := ⟨_, _, List.getElem?_eq_getElem (by rw [HN.out]; exact hlt)⟩
      have eg := HE.out (F, rv) (List.mem_of_getElem? hx)
      have HST := Lib.hid (HS.out k (F, rv) hx wr S.out)
      obtain ⟨b, off, rfl, hc⟩ := (HA.out k wr hlt S.out).addr (by rw [List.length_map, HN.out]; omega)
      have c0 : wr.cell? ⟨b, off + k, none⟩ = some (.func (.func F) #[rv] #[]) := hc k _ (by rw [List.getElem?_map, hx]; rfl)
      have i1 : (0 : Int) ≤ (k : Int) := by omega
      have i2 : (k : Int) < (n : Int) := by omega
      clear hx hc
      dsimp only at eg
      go_wp2_with fail
      refine HST.out.mono ?_
      rintro e W2 ⟨z, rfl, h1, h2⟩
      by_cases hz : z = 0
      · have S2 := Lib.hid (h1 hz)
        subst hz
        clear h1 h2 c0 HST
        go_wp2_with fail
        go_roundw
        case rel => exact ⟨k + 1, by go_num, by omega, S2⟩
        case measure => simp [intOf]; omega
      · have S2 := Lib.hid (h2 hz)
        have hq : (z != 0) = true := by simpa using hz
        clear h1 h2 c0 HST hz
        go_wp2_with fail
        go_ret
        exact ⟨z, rfl, S2.out⟩
    · obtain rfl : k = n := by omega
      go_wp2_with fail
      go_ret
      exact ⟨0, rfl, HQ.out _ S.out⟩
/-- What an iterator over records tells as its k-th. -/
def tellS (ys : List SHdr) (k : Nat) : Array Value := #[cellS (ys.getD k ([], none, 0))]
set_option maxRecDepth 100000 in
set_option maxHeartbeats 1000000 in
theorem jeach1_in (m : Nat) (h1 : 1 ≤ m) (b bd Bx : Nat) (v : Value) (ys : List SHdr) (w0 w : World) (hb0 : Below w0.heap.size w0 w) (hx : w.cell? ⟨Bx, 0, none⟩ = some (optr b)) (h : PJ w0 b bd v ys) (hys : ys.length ≤ 1000000) :
    SeqSays Fence.wide m Try.prog 54 #[.pointer (some ⟨Bx, 0, none⟩)] (tellS ys) ys.length (fun _ W => Below w0.heap.size w0 W) w := by
  intro lp J Jx W hW hJ hJx hNd hY h0
  obtain ⟨p, cap, rfl, hcap, hmax, hA, hxl, hnil⟩ := own_at h.own.own
  have c0 := (hW.cell (World.block_lt_of_cell? w _ hx)).trans hx
  replace hW := hb0.trans (hW.mono hb0.size)
  clear hx hb0 w
  obtain ⟨w, rfl⟩ : ∃ w, w = w0 := ⟨_, rfl⟩
  have hcell : ∀ a v, w.cell? a = some v → W.cell? a = some v := fun a v h => (hW.cell (World.block_lt_of_cell? w a h)).trans h
  have c2 : W.cell? ⟨b, 2, none⟩ = some (.slice p ys.length cap) := hcell _ _ (h.blk.cell 2)
  have hb := h.blk.below hW h.blk.lt
  have HNO := Lib.hid (pjnone_any b bd _ W hb)
  have HJ := Lib.hid hJ
  have HJX := Lib.hid hJx
  have HND := Lib.hid hNd
  have HY := Lib.hid hY
  have HAT := Lib.hid hA
  obtain ⟨n, hn⟩ : ∃ n, n = ys.length := ⟨_, rfl⟩
  rw [← hn] at c2 HY hys ⊢
  have HN := Lib.hid hn
  clear hcell hJ hJx hNd hY h hb hW hA hcap hmax hxl hnil hn
  refine callsIn_of_wp Try.func54 rfl trivial ?_ rfl
  simp only [Try.ntmps54, List.size_toArray, List.length_cons, List.length_nil, Nat.reduceAdd, Nat.reduceSub, Array.replicate_succ, Array.replicate_zero, List.push_toArray, List.append_toArray, List.nil_append, List.cons_append]
  gi_wp2_with (refine ⟨trivial, ?_⟩; gi_at_call 45; refine (callsIn_wide.2 HNO.out).mono ?_; rintro e w1 ⟨rfl, rfl⟩)
  gi_loopw [12] (fun v wr => ∃ k : Nat, v = .int .i64 k ∧ k ≤ n ∧ Hid (J k wr)) (fun v _ => n - (intOf v).toNat)
  case atStart => exact ⟨0, rfl, by omega, Lib.hid h0⟩
  case round =>
    obtain ⟨k, rfl, hk, HJK⟩ := hrel
    by_cases hlt : k < n
    · have hbw := HND.out k wr HJK.out
      obtain ⟨g, off, rfl, hc⟩ := HAT.out.addr (by rw [List.length_map, ← HN.out]; omega)
      have hck : w.cell? ⟨g, off + k, none⟩ = some (cellS (ys.getD k ([], none, 0))) := hc k _ (by rw [List.getElem?_map, List.getD_eq_getElem?_getD, List.getElem?_eq_getElem (by rw [← HN.out]; exact hlt)]; rfl)
      have hcell : wr.cell? ⟨g, off + k, none⟩ = some (cellS (ys.getD k ([], none, 0))) := (hbw.cell (World.block_lt_of_cell? w _ hck)).trans hck
      obtain ⟨fn, tm, as_, bo, hy, hR⟩ := HY.out k wr (by omega) HJK.out
      unfold tellS at hy
      have HR := Lib.hid hR
      generalize cellS (ys.getD k ([], none, 0)) = x at *
      have i1 : (0 : Int) ≤ (k : Int) := by omega
      have i2 : (k : Int) < (n : Int) := by omega
      clear hR hck hc hbw
      gi_wp2
      refine HR.out.mono ?_
      rintro e W3 (⟨rfl, hj⟩ | ⟨rfl, hj⟩)
      · have HJ3 := Lib.hid hj
        clear hj
        gi_wp2
        exact ⟨⟨k + 1, by go_num, by omega, HJ3⟩, by simp [intOf]; omega⟩
      · have HJ3 := Lib.hid hj
        clear hj
        gi_wp2
        refine bodyPost_ret (results_none rfl _ _ _) rfl ?_
        exact ⟨⟨_, rfl⟩, .inr ⟨k + 1, by omega, HJ3.out⟩⟩
    · obtain rfl : k = n := by omega
      gi_wp2
      go_end0
      exact ⟨⟨_, rfl⟩, .inl HJK.out⟩
theorem jeach_in (m : Nat) (q : Option Addr) (w : World) :
    CallsIn Fence.wide m Try.prog 35 #[.pointer q] w fun e w' => e = .returned (.func (.func 54) #[] #[.pointer (some ⟨w.heap.size, 0, none⟩)]) ∧ w' = w.alloc (.cells #[.pointer q] 24) := by
  refine callsIn_of_wp Try.func35 rfl trivial ?_ rfl
  simp only [Try.ntmps35, List.size_toArray, List.length_cons, List.length_nil, Nat.reduceAdd, Nat.reduceSub, Array.replicate_succ, Array.replicate_zero, List.push_toArray, List.append_toArray, List.nil_append, List.cons_append]
  gi_wp2
  go_ret
  exact ⟨rfl, rfl⟩
end
end Go.Proofs.Ythopfpfmliookaa
