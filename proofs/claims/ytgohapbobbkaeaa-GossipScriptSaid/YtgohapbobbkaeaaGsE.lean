/-
  The program's Take; its buffers do what is asked of them.
-/
import Derived.Test.YtgohapbobbkaeaaGsD
namespace Go.Proofs.Ytgohapbobbkaeaa
set_option linter.unusedSimpArgs false
set_option linter.unusedVariables false
open Go.RowKit Sha
theorem Gs.OK.part {N : Nat} {l : List Tl} (h : Gs.OK N l) (k j : Nat) : Gs.OK N (Gs.puts (Gs.lim N) (l.drop k) ((l.take k).take j)) := by
  refine Gs.puts_OK _ _ (h.sub (List.drop_sublist _ _)) (fun x hx => ?_) ?_
  · have := h.may x (List.mem_of_mem_take (List.mem_of_mem_take hx))
    exact ⟨this.1, this.2.1⟩
  · have hp : (Gs.ids (l.drop k ++ l.take k)).Perm (Gs.ids l) := by
      refine List.Perm.map _ ?_
      refine List.perm_append_comm.trans ?_
      rw [List.take_append_drop]
    refine (hp.nodup_iff.2 h.nd).sublist (List.Sublist.map _ ((List.Sublist.refl _).append (List.take_sublist _ _)))
theorem at_new (w : World) (cs : List Value) (t : TypeId) : At (w.alloc (.cells cs.toArray t)) (some ⟨w.heap.size, 0, none⟩) cs :=
  Or.inr ⟨w.heap.size, 0, rfl, fun i v h => by rw [Nat.zero_add, (Blk.new w cs.toArray t).cell]; exact h⟩
theorem hv_ne {w : World} {v v' : Value} {g : Nat} (hb : ∀ k, v'.ownBlock = some k → v.ownBlock = some k ∨ w.heap.size ≤ k) (hne : v.ownBlock ≠ some g) (hg : g < w.heap.size) : v'.ownBlock ≠ some g := fun e => by
  rcases hb g e with h | h
  · exact hne h
  · omega
section
attribute [local go_sem ↓] execOp_loadM execOp_loadT execOp_storeM execOp_storeT execOp_buildM execOp_buildT execOp_sliceT
set_option maxRecDepth 100000 in
set_option maxHeartbeats 1000000 in
theorem gtake_any (b : Nat) (fp : List Nat) (N : Nat) (l : List Tl) (n : Int) (w : World) (h : GRep w b fp (N, l)) (hn : -9223372036854775808 ≤ n ∧ n ≤ 9223372036854775807) :
    Calls Try.prog 11 #[optr b, v64 n] w (GTakeDone GRep b fp N l n w) := by
  have hok := h.2
  have hl21 := Gs.lim_le hok.n2
  obtain ⟨q0, c0, hb⟩ := h.cells
  have HNO := Lib.hid (gnone_any b _ _ hb)
  have HCU := Lib.hid (cutT_any b fp N l n (min n 16) w h rfl hn)
  have HLE := Lib.hid (show Gs.left N l n = Gs.puts (Gs.lim N) (l.drop (Gs.cnt n l.length)) ((l.take (Gs.cnt n l.length)).take (Gs.cnt n l.length)) from by rw [List.take_take, Nat.min_self]; rfl)
  have HTO := Lib.hid (show Gs.told l n = ((l.take (Gs.cnt n l.length)).take (Gs.cnt n l.length)).map (·.m) from by rw [List.take_take, Nat.min_self]; rfl)
  have HTL := Lib.hid (Gs.told_len l n)
  have hk16 := Gs.cnt_le n l.length
  obtain ⟨k, hk⟩ : ∃ k, k = Gs.cnt n l.length := ⟨_, rfl⟩
  rw [← hk] at HCU HLE HTO HTL hk16
  have hXL : (l.take k).length = k := by rw [List.length_take]; omega
  have HOK := Lib.hid (fun j => hok.part k j)
  have HXM := Lib.hid (fun x (hx : x ∈ l.take k) => (hok.may x (List.mem_of_mem_take hx)).2.2)
  obtain ⟨xs, hxs⟩ : ∃ xs, xs = l.take k := ⟨_, rfl⟩
  rw [← hxs] at HLE HTO hXL HOK HXM
  have HX := Lib.hid hxs
  have HXL := Lib.hid hXL
  have HK16 := Lib.hid hk16.2
  obtain ⟨L, hL⟩ : ∃ L, L = Gs.lim N := ⟨_, rfl⟩
  have HLM := Lib.hid (fun W fp' l' (hr : GRep W b fp' (N, l')) => glim_any b fp' N l' W hr)
  rw [← hL] at HLE HOK HXM HLM hl21
  have HL := Lib.hid hL
  have hk17 := hk16.2
  clear h hb hok hk hxs hXL hL hk16 hn
  go_enter Try.func11, Try.ntmps11
  go_wp2_with fail
  refine HNO.out.mono ?_
  rintro e w1 ⟨rfl, hw1⟩
  obtain rfl := hw1.symm
  clear hw1
  go_wp2_with fail
  refine HCU.out.mono ?_
  rintro e w1 ⟨q, c, rfl, hA, hkc, hcm, hr1, ht1, hq1⟩
  rw [← HX.out] at hA
  have T1 := Lib.hid (show TakeIn w w1 fp b N fp (l.drop k) q (xs.flatMap tc) (.slice none 0 0) 0 [] from
    ⟨hr1, hA, World.ownsRow_nil _ _ _ _, fun a e => ⟨(hq1 a e).1, (by intro h; cases h), (hq1 a e).2.2⟩, (fun k e => by cases e), ht1, From.refl _ _⟩)
  have HQ := Lib.hid (fun a (e : q = some a) => (hq1 a e).2.1)
  unfold maxLen at hcm
  clear hA hr1 ht1 hq1 HNO HCU
  go_wp2_with fail
  go_loopw [17, 5] (fun i v wr => ∃ (j : Nat) (fp' : List Nat), i = .int .i64 j ∧ j ≤ k ∧ Hid (TakeIn w wr fp b N fp' (Gs.puts L (l.drop k) (xs.take j)) q (xs.flatMap tc) v j (((xs.take j).map (·.m)).flatMap mc))) (fun i _ _ => k - (intOf i).toNat)
  case atStart => exact ⟨0, fp, rfl, by omega, T1⟩
  case round =>
    clear T1
    obtain ⟨j, fp', rfl, hj, T⟩ := hrel
    by_cases hlt : j < k
    · have hjl : j < xs.length := by rw [HXL.out]; exact hlt
      obtain ⟨g, off, rfl, _⟩ := T.out.row.addr (by rw [tflat_length]; omega)
      have hr := rangeT T.out.row j hjl
      have l0 := run_loadT hr
      have hjn : (0 : Int) ≤ (j : Int) ∧ (j : Int) < (k : Int) := by omega
      have HT2 := Lib.hid (show xs.take (j + 1) = xs.take j ++ [xs[j]] from List.take_succ_eq_append_getElem hjl)
      have hxt := HXM.out xs[j] (List.getElem_mem hjl)
      have HOJ := Lib.hid (HOK.out j)
      have HOJ2 := Lib.hid (HOK.out (j + 1))
      generalize xs[j] = x at *
      -- a telling of its own
      have s7 := putT_run wr x
      have K5 := Lib.hid (putT_blk wr x)
      have T5 := Lib.hid (T.out.on (putT_below wr x))
      have HN7 := Lib.hid (show wr.heap.size ∉ fp' from fun e => Nat.lt_irrefl _ (gHeld.low T.out.rep _ e))
      have HG7 := Lib.hid (show w.heap.size ≤ wr.heap.size from T.out.touch.size)
      have HO7 := Lib.hid (show _ ≠ some wr.heap.size from fun e => Nat.lt_irrefl _ (own_base_w T.out.out _ e).2)
      have HQ7 := Lib.hid (show ∀ a, some (⟨g, off, none⟩ : Addr) = some a → a.block ≠ wr.heap.size from fun a e h => by have := (T.out.a1 a e).2.2; omega)
      generalize putT wr x = w5 at *
      obtain ⟨p5, c5, hu5, hj5, hm5, _, _, _⟩ := own_at_s T5.out.out
      subst hu5
      unfold maxLen at hm5
      have lw := run_loadTm (rangeT_of K5.out)
      have cB := run_buildM1 w5 x.m
      have HAT := Lib.hid (show At (w5.alloc (.cells (mc x.m).toArray mt)) (some ⟨w5.heap.size, 0, none⟩) (mc x.m) from at_new w5 (mc x.m) mt)
      have T6 := Lib.hid (T5.out.on ((Below.refl _ _).alloc (Nat.le_refl _) (.cells (mc x.m).toArray mt)))
      have K6 := Lib.hid (K5.out.upon ((Below.refl _ _).alloc (Nat.le_refl _) (.cells (mc x.m).toArray mt)))
      generalize w5.alloc (.cells (mc x.m).toArray mt) = w6 at *
      have i1 : IntKind.i64.wrap ((x.t : Int) + 1) = (x.t : Int) + 1 := IntWalk.i64_in _ (by omega)
      clear hr hjl T K5 T5
      go_wp2_with (refine wpList_app_s rfl _ _ 35 rfl w.heap.size mt (z := .agg #[.int .i64 0, .int .i64 0, .int .i64 0]) (by decide) Try.underlying35 mem_info rfl _ j _ rfl T6.out.out _ 1 1 (mc x.m) rfl HAT.out rfl (fun h => by cases h) (Nat.le_refl _) (wflat_one [x.m]) (by omega) (by unfold maxLen; omega) (Nat.le_trans T6.out.touch.size (Nat.le_refl _)) ?_; intro v7 w7 hv7 hg7 hb7; have T7 := Lib.hid (T6.out.app hg7 hv7 hb7); have K7 := Lib.hid (blk_past K6.out (Below.refl _ _) hg7 HO7.out); have HV7 := Lib.hid (hv_ne hb7 HO7.out K6.out.lt); have c7 : w7.cell? ⟨wr.heap.size, 3, none⟩ = some (.int .i64 x.t) := K7.out.cell 3; have f7 : w7.frozen? ⟨wr.heap.size, 3, none⟩ = false := K7.out.free 3; clear hv7 hg7 hb7)
      have T8 := Lib.hid (T7.out.setNew (i := 3) (.int .i64 ((x.t : Int) + 1)) HG7.out HN7.out HQ7.out HV7.out)
      have K8 := Lib.hid (show Blk (w7.setCell ⟨wr.heap.size, 3, none⟩ (.int .i64 ((x.t : Int) + 1))) wr.heap.size (tc ⟨x.m, x.t + 1⟩) tt from K7.out.set 3 _)
      clear T7 K7 c7 f7
      generalize w7.setCell ⟨wr.heap.size, 3, none⟩ (.int .i64 ((x.t : Int) + 1)) = w8 at *
      obtain ⟨n7, hn7⟩ : ∃ n7, n7 = wr.heap.size := ⟨_, rfl⟩
      rw [← hn7] at K8 ⊢
      have c8 : w8.cell? ⟨n7, 3, none⟩ = some (.int .i64 ((x.t : Int) + 1)) := K8.out.cell 3
      have QL := Lib.hid (fun kk => HLM.out (w8.drewN kk) fp' _ (T8.out.on (below_drewN (Below.refl _ _) kk)).rep)
      clear hn7 s7 l0 lw cB HN7 HG7 HO7 HQ7 HV7
      go_quiet ((go_at_call 18; refine Calls.quiet_of (QL.out _)))
      have T9 := Lib.hid (T8.out.on (below_drewN (Below.refl _ _) nq))
      have K9 := Lib.hid (K8.out.drewN nq)
      clear T8 K8 c8 QL
      generalize w8.drewN nq = w9 at *
      have HOS := Lib.hid (show ((xs.take j).map (·.m)).flatMap mc ++ mc x.m = ((xs.take (j + 1)).map (·.m)).flatMap mc from by rw [HT2.out]; simp)
      by_cases hput : x.t + 1 < L
      · have t9 : decide ((x.t : Int) + 1 < (L : Int)) = true := decide_eq_true (by omega)
        rw [t9]
        clear t9
        have HPU := Lib.hid (show Gs.puts L (l.drop k) (xs.take (j + 1)) = Gs.put (Gs.puts L (l.drop k) (xs.take j)) ⟨x.m, x.t + 1⟩ from by rw [HT2.out, Gs.puts_snoc]; exact if_pos hput)
        have lk := fun kk => run_loadT (rangeT_of (K9.out.drewN kk))
        have HLJ := Lib.hid (show (Gs.puts L (l.drop k) (xs.take j)).length ≤ 1000 from Nat.le_trans HOJ.out.len (Nat.le_trans HOJ.out.n2 (by omega)))
        clear hput
        go_wp2_with fail
        refine region_quiet_tail 4 (by kernel_rfl) (by kernel_rfl) ?_
        simp only [List.take_succ_cons, List.take_zero, List.drop_succ_cons, List.drop_zero]
        repeat go_big_quiet_step (fail)
        refine wpQuiet_nil ?_
        rintro _ ⟨kk, rfl⟩
        have T10 := Lib.hid (T9.out.on (below_drewN (Below.refl _ _) kk))
        clear T9 K9 lk
        generalize w9.drewN kk = w10 at *
        have HP := Lib.hid (put_any b fp' (optr b) (v64 N) _ ⟨x.m, x.t + 1⟩ w10 T10.out.rep.line HOJ.out.srt HLJ.out)
        go_wp2_with fail
        refine HP.out.mono ?_
        rintro e w11 ⟨rfl, fp2, hr, ht, hf⟩
        have T11 := Lib.hid (T10.out.back hr (by rw [← HPU.out]; exact HOJ2.out) ht hf)
        clear hr ht hf HP T10
        rw [← HPU.out, HOS.out] at T11
        go_wp2_with fail
        go_roundw
        case rel => exact ⟨j + 1, fp2, by go_num, by omega, T11⟩
        case measure => simp [intOf]; omega
      · have t9 : decide ((x.t : Int) + 1 < (L : Int)) = false := decide_eq_false (by omega)
        rw [t9]
        clear t9
        have HPU := Lib.hid (show Gs.puts L (l.drop k) (xs.take (j + 1)) = Gs.puts L (l.drop k) (xs.take j) from by rw [HT2.out, Gs.puts_snoc]; exact if_neg hput)
        clear hput
        rw [← HPU.out, HOS.out] at T9
        go_wp2_with fail
        go_roundw
        case rel => exact ⟨j + 1, fp', by go_num, by omega, T9⟩
        case measure => simp [intOf]; omega
    · obtain rfl : j = k := by omega
      go_wp2_with fail
      go_ret
      refine ⟨_, fp', rfl, ?_, ?_, T.out.touch, T.out.from_, T.out.a3⟩
      · rw [HTL.out, HTO.out]; exact T.out.out
      · rw [HLE.out]; exact T.out.rep
theorem gossipOK : GossipOK 8 14 11 16 18 GRep where
  held := gHeld
  ok := fun h => h.2
  new := gnew_any
  add := gadd_any
  take := gtake_any
  len := glen_any
  lim := glim_any
end
end Go.Proofs.Ytgohapbobbkaeaa
