/-
  The reference's disk crashes; it does what disks are asked to do.
-/
import Derived.Test.YtooljhdfmfkpeaaDkD
namespace Go.Proofs.Ytooljhdfmfkpeaa
set_option linter.unusedSimpArgs false
set_option linter.unusedVariables false
open Go.RowKit Sha Dsk
section
variable {P : Program} {o : Oper} {a : Act} {C : World → Prop} {K : Act → Prop}
theorem quiet_slice (t : TypeId) (x : Operand) (lo hi mx : Option Operand) (ho : o.op = .slice t x lo hi mx) (V : Value) (hr : ∀ w, (Instr.sliceAt t (a.eval x) (lo.map a.eval) (hi.map a.eval) (mx.map a.eval)).run P w = .ok V w) (h : K (a.put o.dst V)) : o.quiet P a C K :=
  ⟨V, fun w _ => by
    unfold Oper.quietAt execOp
    simp only [ho, Sem.run_bind, hr, Result.andThen_ok, Sem.run_pure]
    exact ⟨rfl, rfl⟩, h⟩
end
set_option maxRecDepth 100000 in
set_option maxHeartbeats 2000000 in
theorem rcrash_any (b : Nat) (fp : List Nat) (s : DState) (n : Int) (w : World) (h : RefDisk w b fp s) (hn : fit64 n) :
    Calls Try.prog 46 #[optr b, i64v n] w (ODone RefDisk b fp (crashS s n) (i64v (crashE n)) w) := by
  obtain ⟨vL, vA, rfl, h⟩ := h
  obtain ⟨hn1, hn2⟩ := hn
  have HR := Lib.hid h
  by_cases h0 : n < 0
  · have HE := Lib.hid (show crashE n = 2 from if_pos h0)
    have HS := Lib.hid (show crashS s n = s from if_pos h0)
    clear h
    go_enter Try.func46, Try.ntmps46
    go_wp2_with fail
    go_ret
    exact ⟨by rw [HE.out]; rfl, _, by rw [HS.out]; exact ⟨vL, vA, rfl, HR.out⟩, Touch.refl _ _, From.refl _ _⟩
  · obtain ⟨k, rfl⟩ : ∃ k : Nat, n = k := ⟨n.toNat, by omega⟩
    have HE := Lib.hid (show crashE (k : Int) = 0 from if_neg h0)
    have HS := Lib.hid (show crashS s k = { s with log := cut s k, firm := (cut s k).length, next := [], left := -1, out := false } from if_neg h0)
    have HOK := Lib.hid (crash_ok h.ok (k : Int))
    obtain ⟨pL, cL, hv, hl, hm, hA, hx, hnil⟩ := own_at h.log
    have hc : ∀ i, w.cell? ⟨b, i, none⟩ = _ := h.blk.cell
    have c0 : w.cell? ⟨b, 0, none⟩ = some (.slice pL s.log.length cL) := by rw [← hv]; exact hc 0
    have c1 : w.cell? ⟨b, 1, none⟩ = some (i64v s.firm) := hc 1
    have hfl := h.ok.firm
    have hsm : s.log.length ≤ 1000000 := by have := h.ok.small; omega
    have HCL := Lib.hid (cut_len s k)
    obtain ⟨l, hll⟩ : ∃ l, l = s.log.length := ⟨_, rfl⟩
    obtain ⟨f, hff⟩ : ∃ f, f = s.firm := ⟨_, rfl⟩
    rw [← hll] at hv hl c0 hsm hfl HCL
    rw [← hff] at c1 hfl HCL
    have HLL := Lib.hid hll
    have HFF := Lib.hid hff
    by_cases hk : k < l - f
    · have hd : decide ((k : Int) < (l : Int) - (f : Int)) = true := decide_eq_true (by omega)
      obtain ⟨g, cap, hv2, hgB, hlc, hcm, hgs⟩ := own_form (B := 0) (by have := h.log; rw [← hll] at this; exact this) (show 0 < l by omega)
      rw [hv] at hv2
      cases hv2
      have hcut : ∀ w, (Instr.sliceAt 32 (.slice (some ⟨g, 0, none⟩) l cL) none (some (.int .i64 ((f : Int) + (k : Int)))) none).run Try.prog w = .ok (.slice (some ⟨g, 0, none⟩) (f + k) cL) w := fun w => by
        rw [run_cut_h 32 5 (some ⟨g, 0, none⟩) l cL Try.underlying32 kslice1 .i64 ((f : Int) + (k : Int)) (by omega) (by omega)]
        have e : ((f : Int) + (k : Int)).toNat = f + k := by omega
        rw [e]
        simp [cutV]
        intro _; rfl
      have HCUT := Lib.hid hcut
      have HL2 := Lib.hid (show w.ownsRow 0 5 1 (.slice (some ⟨g, 0, none⟩) (f + k) cL) (cut s k).length ((cut s k).map v8) from by
        have h1 := h.log
        rw [hv, ← hll] at h1
        have h2 := row_take h1 (f + k) (by omega)
        rw [HCL.out, show min (f + k) l = f + k by omega]
        unfold cut
        rw [List.map_take, ← hff]
        exact h2)
      have HLEN := Lib.hid (show (cut s k).length = f + k by rw [HCL.out]; omega)
      have HV := Lib.hid hv
      clear h hc hv hl hm hA hx hnil hll hff hcut hlc hgB hgs
      go_enter Try.func46, Try.ntmps46
      go_wp2_with fail
      go_quiet (fail)
      obtain ⟨w1, hw1⟩ : ∃ x, x = w.drewN nq := ⟨_, rfl⟩
      have R1 := Lib.hid (show RD w1 b vL vA s by rw [hw1]; exact HR.out.keep fun _ _ => rfl)
      have T1 := Lib.hid (show Touch (fpD b vL vA) w w1 by rw [hw1]; exact (Touch.refl _ w).drewN nq)
      have HL3 := Lib.hid (show w1.ownsRow 0 5 1 (.slice (some ⟨g, 0, none⟩) (f + k) cL) (cut s k).length ((cut s k).map v8) by rw [hw1]; exact row_blocks8 HL2.out fun _ _ => rfl)
      have d0 : w1.drew.cell? ⟨b, 0, none⟩ = some (.slice (some ⟨g, 0, none⟩) l cL) := by rw [hw1]; exact c0
      have d1 : w1.drew.cell? ⟨b, 1, none⟩ = some (i64v f) := by rw [hw1]; exact c1
      have d0' : w1.cell? ⟨b, 0, none⟩ = some (.slice (some ⟨g, 0, none⟩) l cL) := d0
      have d1' : w1.cell? ⟨b, 1, none⟩ = some (i64v f) := d1
      have B1 := Lib.hid R1.out.blk
      have d2 : w1.cell? ⟨b, 2, none⟩ = some vA := B1.out.cell 2
      have d5 : w1.cell? ⟨b, 5, none⟩ = some (i64v s.left) := B1.out.cell 5
      have d6 : w1.cell? ⟨b, 6, none⟩ = some (.bool s.out) := B1.out.cell 6
      have f0 : w1.frozen? ⟨b, 0, none⟩ = false := B1.out.free 0
      have f1 : w1.frozen? ⟨b, 1, none⟩ = false := B1.out.free 1
      have f2 : w1.frozen? ⟨b, 2, none⟩ = false := B1.out.free 2
      have f5 : w1.frozen? ⟨b, 5, none⟩ = false := B1.out.free 5
      have f6 : w1.frozen? ⟨b, 6, none⟩ = false := B1.out.free 6
      rw [← hw1]
      clear hw1 c0 c1 HR HL2 hd
      have i1 : IntKind.i64.wrap ((f : Int) + (k : Int)) = (f : Int) + (k : Int) := IntWalk.i64_in _ (by omega)
      go_wp2_with fail
      refine region_tail 12 (by kernel_rfl) (by kernel_rfl) ?_
      simp only [List.take_succ_cons, List.take_zero, List.drop_succ_cons, List.drop_zero]
      repeat (first
        | (go_big_quiet_want; refine quiet_slice 32 _ _ _ _ rfl _ HCUT.out ?_; simp only [Act.put, List.setIfInBounds_toArray, List.set_cons_zero, List.set_cons_succ, List.getElem_toArray, List.getElem_cons_succ, List.getElem_cons_zero]; go_big_quiet_on)
        | go_big_quiet_step (fail))
      refine wpQuiet_nil ?_
      go_wp2_with fail
      go_ret
      have hb := (((((B1.out.set 0 (.slice (some ⟨g, 0, none⟩) (f + k) cL)).set 1 (i64v ((f : Int) + (k : Int)))).set 2 (.slice none 0 0)).set 5 (i64v (-1))).set 6 (.bool false))
      have hT : Touch (fpD b vL vA) w _ := (((((T1.out.setIn (g := b) (i := 0) (fpD_mem.2 (.inl rfl)) (.slice (some ⟨g, 0, none⟩) (f + k) cL)).setIn (g := b) (i := 1) (fpD_mem.2 (.inl rfl)) (i64v ((f : Int) + (k : Int)))).setIn (g := b) (i := 2) (fpD_mem.2 (.inl rfl)) (.slice none 0 0)).setIn (g := b) (i := 5) (fpD_mem.2 (.inl rfl)) (i64v (-1))).setIn (g := b) (i := 6) (fpD_mem.2 (.inl rfl)) (.bool false))
      have hcast : (((cut s k).length : Nat) : Int) = (f : Int) + (k : Int) := by rw [HLEN.out]; push_cast; rfl
      have h2 := R1.out.shorn (s' := crashS s k) (vL' := .slice (some ⟨g, 0, none⟩) (f + k) cL) (w' := (((((w1.setCell ⟨b, 0, none⟩ (.slice (some ⟨g, 0, none⟩) (f + k) cL)).setCell ⟨b, 1, none⟩ (i64v ((f : Int) + (k : Int)))).setCell ⟨b, 2, none⟩ (.slice none 0 0)).setCell ⟨b, 5, none⟩ (i64v (-1))).setCell ⟨b, 6, none⟩ (.bool false))) (by rw [HS.out]; simp only [hcast]; exact hb) (fun k hk => ((((Below.heap_setCell _ _ _ _ hk).trans (Below.heap_setCell _ _ _ _ hk)).trans (Below.heap_setCell _ _ _ _ hk)).trans (Below.heap_setCell _ _ _ _ hk)).trans (Below.heap_setCell _ _ _ _ hk)) (by rw [HS.out]; exact HL3.out) (.inl (by rw [HV.out]; rfl)) (by rw [HS.out]) HOK.out
      refine ⟨by rw [HE.out]; rfl, _, ⟨_, _, rfl, h2.1.keep fun _ _ => rfl⟩, hT.drewN 1, fun k hk => ?_⟩
      rcases h2.2 k hk with h' | h'
      · exact .inl h'
      · exact .inr (Nat.le_trans T1.out.size h')
    · have hd : decide ((k : Int) < (l : Int) - (f : Int)) = false := decide_eq_false (by omega)
      have HALL := Lib.hid (cut_all (s := s) (n := k) (by omega) (by omega))
      have HV := Lib.hid hv
      have HL2 := Lib.hid h.log
      clear h hc hv hl hm hA hx hnil hll hff
      go_enter Try.func46, Try.ntmps46
      go_wp2_with fail
      go_quiet (fail)
      obtain ⟨w1, hw1⟩ : ∃ x, x = w.drewN nq := ⟨_, rfl⟩
      have R1 := Lib.hid (show RD w1 b vL vA s by rw [hw1]; exact HR.out.keep fun _ _ => rfl)
      have T1 := Lib.hid (show Touch (fpD b vL vA) w w1 by rw [hw1]; exact (Touch.refl _ w).drewN nq)
      have B1 := Lib.hid R1.out.blk
      have d0 : w1.cell? ⟨b, 0, none⟩ = some (.slice pL l cL) := by rw [hw1]; exact c0
      have d1 : w1.cell? ⟨b, 1, none⟩ = some (i64v f) := by rw [hw1]; exact c1
      have d2 : w1.cell? ⟨b, 2, none⟩ = some vA := B1.out.cell 2
      have d5 : w1.cell? ⟨b, 5, none⟩ = some (i64v s.left) := B1.out.cell 5
      have d6 : w1.cell? ⟨b, 6, none⟩ = some (.bool s.out) := B1.out.cell 6
      have f1 : w1.frozen? ⟨b, 1, none⟩ = false := B1.out.free 1
      have f2 : w1.frozen? ⟨b, 2, none⟩ = false := B1.out.free 2
      have f5 : w1.frozen? ⟨b, 5, none⟩ = false := B1.out.free 5
      have f6 : w1.frozen? ⟨b, 6, none⟩ = false := B1.out.free 6
      rw [← hw1]
      clear hw1 c0 c1 HR HL2 hd
      go_wp2_with fail
      go_ret
      have hb := ((((B1.out.set 1 (i64v l)).set 2 (.slice none 0 0)).set 5 (i64v (-1))).set 6 (.bool false))
      have hT : Touch (fpD b vL vA) w _ := ((((T1.out.setIn (g := b) (i := 1) (fpD_mem.2 (.inl rfl)) (i64v l)).setIn (g := b) (i := 2) (fpD_mem.2 (.inl rfl)) (.slice none 0 0)).setIn (g := b) (i := 5) (fpD_mem.2 (.inl rfl)) (i64v (-1))).setIn (g := b) (i := 6) (fpD_mem.2 (.inl rfl)) (.bool false))
      have hcast : (((cut s k).length : Nat) : Int) = (l : Int) := by rw [HALL.out, HLL.out]
      have h2 := R1.out.shorn (s' := crashS s k) (vL' := vL) (w' := ((((w1.setCell ⟨b, 1, none⟩ (i64v l)).setCell ⟨b, 2, none⟩ (.slice none 0 0)).setCell ⟨b, 5, none⟩ (i64v (-1))).setCell ⟨b, 6, none⟩ (.bool false))) (by rw [HS.out]; simp only [hcast]; exact hb) (fun k hk => (((Below.heap_setCell _ _ _ _ hk).trans (Below.heap_setCell _ _ _ _ hk)).trans (Below.heap_setCell _ _ _ _ hk)).trans (Below.heap_setCell _ _ _ _ hk)) (by rw [HS.out, HALL.out]; exact R1.out.log) (.inl rfl) (by rw [HS.out]) HOK.out
      refine ⟨by rw [HE.out]; rfl, _, ⟨_, _, rfl, h2.1⟩, hT, fun k hk => ?_⟩
      rcases h2.2 k hk with h' | h'
      · exact .inl h'
      · exact .inr (Nat.le_trans T1.out.size h')
theorem refDiskOK : DiskOK 9 40 41 42 43 50 44 45 46 47 RefDisk where
  held := refHeldD
  ok := fun h => by obtain ⟨_, _, _, h⟩ := h; exact h.ok
  new := fun n w hn => dnew_any n w hn
  append := fun b fp s zs n p cap w h hs hn hm hz ha => rappend_any b fp s zs n p cap w h hs hn hm hz ha
  sync := fun b fp s w h hs => rsync_any b fp s w h hs
  next := fun b fp s zs n p cap w h hs hn hm hz ha => rnext_any b fp s zs n p cap w h hs hn hm hz ha
  switch := fun b fp s w h hs => rswitch_any b fp s w h hs
  read := fun b fp s w h => rread_any b fp s w h
  room := fun b fp s n w h hn => rroom_any b fp s n w h hn
  fuse := fun b fp s n w h hn => rfuse_any b fp s n w h hn
  crash := fun b fp s n w h hn => rcrash_any b fp s n w h hn
  wipe := fun b fp s w h => rwipe_any b fp s w h
end Go.Proofs.Ytooljhdfmfkpeaa
