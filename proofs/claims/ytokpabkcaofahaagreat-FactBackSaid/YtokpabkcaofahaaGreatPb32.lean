/-
  The program's slices.DeleteFunc at api.Blob (written by mk9.py from Del.src).
  The program's questions about a state's things: is it of the set that goes, did something go from it?
-/
import Derived.Test.YtokpabkcaofahaaGreatPb31
import Derived.Test.YtokpabkcaofahaaGreatPb27
import Derived.Test.YtokpabkcaofahaaGreatPb28
import Derived.Test.YtokpabkcaofahaaGreatPb30
namespace Go.Proofs.YtokpabkcaofahaaGreat
section
set_option linter.unusedSimpArgs false
set_option linter.unusedVariables false
open Go.RowKit Sha Fct
theorem zero1_B : (Tryz.prog.info? 93).map (fun i => i.zero) = some (some (.agg (bcells (Fld.zero32, []) none 0).toArray)) := by
  have h := info_B
  cases hq : Tryz.prog.info? 93 with
  | none => rw [hq] at h; cases h
  | some i => rw [hq] at h; simp at h; simp [h.1]
theorem zeroV_B (w : World) : (zeroValue 93).run Tryz.prog w = .ok (.agg (bcells (Fld.zero32, []) none 0).toArray) w := by
  have h := zero1_B
  cases hq : Tryz.prog.info? 93 with
  | none => rw [hq] at h; cases h
  | some i => rw [hq] at h; simp at h; simp [zeroValue, typeInfo, hq, h]
theorem execOp_allocOB (ρ : Operand → Value) (dst : Option Tmp) (ty : TypeId) (pos : String) (after : Array Edge) (guard : Option (Nat × Bool)) :
    execOp ρ { dst := dst, op := .alloc 93, type := ty, pos := pos, after := after, guard := guard } = allocOp 93 := by unfold allocOp; rfl
theorem execOp_storeOB (ρ : Operand → Value) (dst : Option Tmp) (x y : Operand) (ty : TypeId) (pos : String) (after : Array Edge) (guard : Option (Nat × Bool)) :
    execOp ρ { dst := dst, op := .store 93 x y, type := ty, pos := pos, after := after, guard := guard } = storeOp 93 (ρ x) (ρ y) := by unfold storeOp; rfl
theorem alloc_OB (w : World) : (allocOp 93).run Tryz.prog w = .ok (.value (.pointer (some ⟨w.heap.size, 0, none⟩))) (w.alloc (.cells (bcells (Fld.zero32, []) none 0).toArray 93)) := run_allocOp w zero1_B
theorem storeN_OB (w : World) {x : Fct.Id × List Int} (hx : sB.ok x) (q : Option Addr) (c : Nat) : (storeOp 93 (.pointer (some ⟨w.heap.size, 0, none⟩)) (.agg (bcells x q c).toArray)).run Tryz.prog (w.alloc (.cells (bcells (Fld.zero32, []) none 0).toArray 93)) = .ok .skip (w.alloc (.cells (bcells x q c).toArray 93)) := by
  have hl : (bcells x q c).length = 33 := sB.len q c hx
  refine run_storeNew w (by rw [isize_B]; simp [hl]) (by rw [List.size_toArray, List.size_toArray, hl]; exact zlen_B) ?_
  have h1 := sB.one x q c
  simp only [List.all_toArray, List.all_eq_true]
  exact h1
/-- What a deletion leaves. -/
def DltB (mb : Nat) (Pr : Fct.Id × List Int → Bool) (ys : List (Hd (Fct.Id × List Int))) (I : World → Nat → Prop) (w : World) (B : Nat) (v : Value) (e : Ending) (w' : World) : Prop :=
  ∃ v', e = .returned v' ∧ Rws sB 93 w' B v' (ys.filter fun y => !Pr y.1) ∧ I w' ys.length ∧ Chg (fun k => v.ownBlock = some k ∨ k = mb) w w'
attribute [local go_sem ↓] execOp_loadOB execOp_allocOB execOp_storeOB execOp_sliceB
set_option maxRecDepth 100000 in
set_option maxHeartbeats 4000000 in
theorem del_B (mb : Nat) (cap : Value) (Pr : Fct.Id × List Int → Bool) (ys : List (Hd (Fct.Id × List Int))) (I : World → Nat → Prop) (HP : PrdB mb cap Pr ys I) (w : World) (B : Nat) (v : Value) (h : Rws sB 93 w B v ys) (hI : I w 0) (hn : ys.length ≤ 1000000000) :
    Calls Tryz.prog 178 #[v, .func (.func 179) #[] #[cap]] w (DltB mb Pr ys I w B v) := by
  have HIX := Lib.hid (idx_B mb cap Pr ys I HP w B v h hI hn)
  by_cases h0 : ixB Pr ys = ys.length
  · obtain ⟨p, c, rfl, _⟩ := h.told
    have HR := Lib.hid h
    have HF := Lib.hid (show (ys.filter fun y => !Pr y.1) = ys from List.filter_eq_self.2 fun y hy => by
      obtain ⟨i, hi, rfl⟩ := List.getElem_of_mem hy
      have := List.not_of_lt_findIdx (p := fun y : Hd (Fct.Id × List Int) => Pr y.1) (xs := ys) (i := i) (by unfold ixB at h0; rw [h0]; exact hi)
      simpa using this)
    have HM := Lib.hid (HP.map _ _ hI)
    clear h hI
    go_enter Tryz.func178, Tryz.ntmps178
    go_wp2_with fail
    refine HIX.out.mono ?_
    rintro e w2 ⟨r, rfl, hr, hg2⟩
    rcases hr with ⟨hr, _, hI2⟩ | ⟨_, hr, _⟩
    rotate_left
    · omega
    subst hr
    have HG2 := Lib.hid hg2
    have HI2 := Lib.hid hI2
    clear hg2 hI2
    go_wp2_with fail
    go_ret
    refine ⟨_, rfl, ?_, HI2.out, (Chg.refl _ w).grown HG2.out fun k hk _ => Or.inr (by cases hk; rfl)⟩
    rw [HF.out]; exact HR.out.map_ HG2.out HM.out
  · have hlt : ixB Pr ys < ys.length := by
      have : ixB Pr ys ≤ ys.length := List.findIdx_le_length
      omega
    obtain ⟨g, cp, rest, rfl, hBg, hcp, hmx, hk, hl, hl2⟩ := own_whole h.own (by omega)
    obtain ⟨n, hnl⟩ : ∃ n, n = ys.length := ⟨_, rfl⟩
    obtain ⟨ix, hix⟩ : ∃ i, i = ixB Pr ys := ⟨_, rfl⟩
    rw [← hix] at hlt
    have hrest : rest.length = (cp - n) * 33 := by
      rw [List.length_append, hl, ← hnl] at hl2
      have e : sB.n = 33 := rfl
      rw [e] at hl2
      rw [Nat.sub_mul]; omega
    -- behind the first one
    have h1 : Pr ys[ix].1 = true := by
      subst hix
      exact List.findIdx_getElem (p := fun y : Hd (Fct.Id × List Int) => Pr y.1) (xs := ys) (w := hlt)
    have hF0 : (ys.take ix).filter (fun y => !Pr y.1) = ys.take ix := List.filter_eq_self.2 fun y hy => by
      obtain ⟨i, hi, rfl⟩ := List.getElem_of_mem hy
      rw [List.length_take] at hi
      have := List.not_of_lt_findIdx (p := fun y : Hd (Fct.Id × List Int) => Pr y.1) (xs := ys) (i := i) (by rw [hix] at hi; unfold ixB at hi; omega)
      simpa using this
    have hF1 : (ys.take (ix + 1)).filter (fun y => !Pr y.1) = ys.take ix := by
      rw [filter_upto _ _ _ hlt, hF0]; simp [h1]
    have hM : MidB sB w g 93 (ys.take ix) (sB.row ys[ix]) (ys.drop (ix + 1)) rest := by
      unfold MidB
      rw [← flat_el h.ok ix hlt]; exact hk
    have hG0 : (sB.row ys[ix]).length = (ix + 1 - ix) * 33 := by
      rw [Nat.add_sub_cancel_left, Nat.one_mul]; exact sB.len _ _ (h.ok _ (List.getElem_mem hlt))
    have hFl : (ys.take ix).length = ix := by rw [List.length_take]; omega
    rw [← hF1] at hM hFl
    have HM := Lib.hid hM
    have HR := Lib.hid h
    have HK := Lib.hid hk
    have HMB := Lib.hid (HP.map _ _ hI)
    have HNL := Lib.hid hnl
    have HX := Lib.hid hix
    have HG0 := Lib.hid hG0
    have HFL := Lib.hid hFl
    have HRE := Lib.hid hrest
    rw [← hnl] at hcp hlt ⊢
    generalize sB.row ys[ix] = G0 at *
    clear hnl hix hM h hI hk hl hl2 h1 hF0 hF1 hG0 hFl hrest
    go_enter Tryz.func178, Tryz.ntmps178
    go_wp2_with fail
    rw [HNL.out]
    refine HIX.out.mono ?_
    rintro e w2 ⟨r, rfl, hr, hg2⟩
    rcases hr with ⟨_, hr, _⟩ | ⟨hr, _, hI2⟩
    · omega
    rw [← HX.out] at hr hI2
    subst hr
    rw [← HNL.out]
    have HM2 := Lib.hid (HM.out.kept hg2 fun e => isMap_ne HMB.out HK.out (by cases e; rfl))
    have HI2 := Lib.hid hI2
    have HC2 := Lib.hid ((Chg.refl (fun k => k = g ∨ k = mb) w).grown hg2 fun k hk _ => Or.inr (by cases hk; rfl))
    clear hg2 hI2
    have hm1 : ((ix : Int) == -1) = false := by rw [beq_eq_false_iff_ne]; omega
    go_wp2_with fail
    go_loopw [5, 6] (fun vi vj wr => ∃ (i j : Nat) (G : List Value), vi = .int .i64 i ∧ vj = .int .i64 j ∧ i < j ∧ j ≤ n ∧ Hid (((ys.take j).filter fun y => !Pr y.1).length = i) ∧ Hid (G.length = (j - i) * 33) ∧ Hid (MidB sB wr g 93 ((ys.take j).filter fun y => !Pr y.1) G (ys.drop j) rest) ∧ Hid (I wr j) ∧ Hid (Chg (fun k => k = g ∨ k = mb) w wr)) (fun _ j _ => n - (intOf j).toNat)
    case atStart => exact ⟨ix, ix + 1, G0, rfl, by go_num, by omega, by omega, HFL, HG0, HM2, HI2, HC2⟩
    case round =>
      obtain ⟨i, j, G, rfl, rfl, hij, hjn, HF, HG, HB, HI, HC⟩ := hrel
      have HFO := Lib.hid (show ∀ y ∈ (ys.take j).filter (fun y => !Pr y.1), sB.ok y.1 from fun y hy => HR.out.ok y (List.mem_of_mem_take (List.mem_filter.1 hy).1))
      by_cases hjl : j < n
      · have hjy : j < ys.length := by rw [← HNL.out]; exact hjl
        have hdr : ys.drop j = ys[j] :: ys.drop (j + 1) := List.drop_eq_getElem_cons hjy
        have hfu := filter_upto (fun y : Hd (Fct.Id × List Int) => !Pr y.1) ys j hjy
        have hb1 := HB.out
        rw [hdr] at hb1
        have hoky := HR.out.ok _ (List.getElem_mem hjy)
        have hca := fun w h => HP.call w j hjy h
        obtain ⟨y, hy⟩ : ∃ y, y = ys[j] := ⟨_, rfl⟩
        rw [← hy] at hfu hb1 hoky hca
        have HFU := Lib.hid hfu
        have HOK := Lib.hid hoky
        have HCA := Lib.hid hca
        have hr2 : wr.rangeAt g (j * 33) (bcells y.1 y.2.1 y.2.2) := hb1.range HFO.out HF.out HG.out (by omega)
        have l1 := load_OB hoky hr2
        have al := alloc_OB wr
        have sN := storeN_OB wr hoky y.2.1 y.2.2
        have hbk : Blk (wr.alloc (.cells (bcells y.1 y.2.1 y.2.2).toArray 93)) wr.heap.size (bcells y.1 y.2.1 y.2.2) 93 := Blk.new wr _ 93
        have hg2 := alloc_grown wr (.cells (bcells y.1 y.2.1 y.2.2).toArray 93) none
        have HI2 := Lib.hid (HP.stays _ _ _ none HI.out hg2 (fun k hk => by cases hk))
        have HB2 := Lib.hid (hb1.kept hg2 (by simp))
        have HC2 := Lib.hid (HC.out.grown hg2 (by intro k hk; cases hk))
        obtain ⟨b0, hb0⟩ : ∃ b, b = wr.heap.size := ⟨_, rfl⟩
        rw [← hb0] at al sN hbk
        have HBK := Lib.hid hbk
        have l2 := load_OB hoky hbk.range
        obtain ⟨F, hF⟩ : ∃ F, F = (ys.take j).filter (fun y : Hd (Fct.Id × List Int) => !Pr y.1) := ⟨_, rfl⟩
        rw [← hF] at HF HFO HFU HB2
        clear hF hb0 hy hfu hb1 hoky hca hdr hr2 hg2 hbk HB HI HC
        generalize wr.alloc (.cells (bcells (Fld.zero32, []) none 0).toArray 93) = w1 at *
        generalize wr.alloc (.cells (bcells y.1 y.2.1 y.2.2).toArray 93) = w2 at *
        have hjn2 : (0 : Int) ≤ (j : Int) ∧ (j : Int) < (n : Int) := by omega
        have hin2 : (0 : Int) ≤ (i : Int) ∧ (i : Int) < (n : Int) := by omega
        go_wp2_with fail
        refine (HCA.out _ HI2.out).mono ?_
        rintro e w3 ⟨rfl, hI3, hg3⟩
        have HM2 := Lib.hid (HP.map _ _ HI2.out)
        have HB3 := Lib.hid (HB2.out.kept hg3 (fun e => isMap_ne HM2.out (show Blk w2 g _ _ from HB2.out) (by cases e; rfl)))
        have HK3 := Lib.hid (blk_grown HBK.out hg3 (fun e => isMap_ne HM2.out HBK.out (by cases e; rfl)))
        have HI3 := Lib.hid hI3
        have HC3 := Lib.hid (HC2.out.grown hg3 fun k hk _ => Or.inr (by cases hk; rfl))
        clear hI3 hg3 l1 l2 al sN
        cases hp : Pr y.1 with
        | true =>
          have HFU2 := Lib.hid (show (ys.take (j + 1)).filter (fun y : Hd (Fct.Id × List Int) => !Pr y.1) = F by rw [HFU.out, hp]; simp)
          clear hp
          go_wp2_with fail
          go_roundw
          case rel =>
            refine ⟨i, j + 1, G ++ sB.row y, rfl, by go_num, by omega, by omega, ?_, ?_, ?_, HI3, HC3⟩
            · rw [HFU2.out]; exact HF
            · refine Lib.hid ?_
              rw [List.length_append, HG.out, show (sB.row y).length = 33 from sB.len _ _ HOK.out, show j + 1 - i = (j - i) + 1 by omega, Nat.succ_mul]
            · rw [HFU2.out]; exact Lib.hid HB3.out.skip
          case measure => simp [intOf]; omega
        | false =>
          have HFU2 := Lib.hid (show (ys.take (j + 1)).filter (fun y : Hd (Fct.Id × List Int) => !Pr y.1) = F ++ [y] by rw [HFU.out, hp]; simp)
          clear hp
          obtain ⟨k1, k2, k3⟩ := HB3.out.keep HFO.out HOK.out HF.out HG.out hij
          have st : (storeOp 93 (.pointer (some ⟨g, i * 33, none⟩)) (.agg (bcells y.1 y.2.1 y.2.2).toArray)).run Tryz.prog w3 = .ok .skip (w3.setCells g (i * 33) (sB.row y)) := k3 isize_B
          have hg4 := setCells_grown w3 g (i * 33) (sB.row y)
          have l3 := load_OB HOK.out HK3.out.range
          have HI4 := Lib.hid (HP.stays _ _ _ (some g) HI3.out hg4 (fun k hk => by cases hk; exact ⟨_, _, HB3.out⟩))
          have HC4 := Lib.hid (HC3.out.grown hg4 fun k hk _ => Or.inl (by cases hk; rfl))
          have HB4 := Lib.hid k1
          have HG4 := Lib.hid k2
          clear k1 k2 k3 hg4
          have e1 : sB.n = 33 := rfl
          rw [e1] at HB4
          generalize w3.setCells g (i * 33) (sB.row y) = w4 at *
          clear e1
          go_wp2_with fail
          go_roundw
          case rel =>
            refine ⟨i + 1, j + 1, _, by go_num, by go_num, by omega, by omega, ?_, HG4, ?_, HI4, HC4⟩
            · rw [HFU2.out]; refine Lib.hid ?_; rw [List.length_append, HF.out]; rfl
            · rw [HFU2.out]; exact HB4
          case measure => simp [intOf]; omega
      · obtain rfl : j = n := by omega
        have hdr : ys.drop j = [] := List.drop_eq_nil_of_le (by rw [HNL.out]; omega)
        have htk : ys.take j = ys := List.take_of_length_le (by rw [HNL.out]; omega)
        rw [hdr] at HB
        rw [htk] at HB HF HFO
        have hz := zsize_B
        obtain ⟨zz, hzz⟩ : ∃ zz : Value, zz = .agg (bcells (Fld.zero32, []) none 0).toArray := ⟨_, rfl⟩
        have hzv := zeroV_B
        rw [← hzz] at hz hzv
        have hz1 : ∀ v ∈ zz.cells.toList, v.oneCell' = true := by rw [hzz]; exact sB.one _ _ _
        have hZl : (Builtin.zeroCells zz.cells (j - i)).toList.length = (j - i) * 33 := by rw [Array.length_toList, size_zeroCells, hz]
        obtain ⟨hown, hth⟩ := HB.out.clear HFO.out HF.out HG.out hZl (by omega) hBg hcp hmx HRE.out
        have cl := run_clearS (P := Tryz.prog) wr Tryz.underlying41 hzv (by omega) hz1 g (i * 33) (j - i) (cp - i) (by omega) (by rw [hz]; exact hth)
        have hg4 := setCells_grown wr g (i * 33) (Builtin.zeroCells zz.cells (j - i)).toList
        have HI4 := Lib.hid (HP.stays _ _ _ (some g) HI.out hg4 (fun k hk => by cases hk; exact ⟨_, _, HB.out⟩))
        have HC4 := Lib.hid (HC.out.grown hg4 fun k hk _ => Or.inl (by cases hk; rfl))
        have HO4 := Lib.hid hown
        have k0 := cut_lB (some ⟨g, 0, none⟩) j cp i (by omega) hcp
        simp only [if_neg (show ¬ (cp = i) by omega), Option.map_some, Addr.add_mid, Nat.zero_add] at k0
        have k1 := cut_hB (some ⟨g, 0, none⟩) j cp i (by omega)
        clear hown hth hg4 hz hzv hz1 hZl hzz hdr htk
        have e1 : sB.n = 33 := rfl
        rw [e1] at HO4
        clear e1
        generalize wr.setCells g (i * 33) (Builtin.zeroCells zz.cells (j - i)).toList = w4 at *
        have hfl := HF.out
        generalize j - i = dl at *
        generalize cp - i = dc at *
        go_wp2_with (at_builtin; refine clear_law _ rfl (.tmp 38) 41 rfl _ rfl (cl _) ?_)
        go_ret
        have hold : ∀ y ∈ ys, sB.Good w4 y.1 y.2.1 y.2.2 ∧ U8 w4 y.2.1 (sB.byt y.1) := fun y hy => by
          have hk := u8_keeps HC4.out fun k cs hb => by
            rintro (e | e)
            · subst e; exact absurd (blk_ty hb HK.out) (by decide)
            · exact isMap_ne HMB.out hb e.symm
          exact ⟨good_blk (HR.out.good y hy).1 (HR.out.good y hy).2 hk, (HR.out.good y hy).2.on hk⟩
        refine ⟨_, rfl, ⟨?_, fun y hy => hold y (List.mem_filter.1 hy).1⟩, by rw [← HNL.out]; exact HI4.out, HC4.out.mono fun k _ hk => hk.imp (fun e => by rw [e]; rfl) id⟩
        rw [hfl]; exact HO4.out
end
section
set_option linter.unusedSimpArgs false
set_option linter.unusedVariables false
open Go.RowKit Sha Fct
attribute [local go_sem ↓] execOp_boxId execOp_loadId execOp_boxOB execOp_boxOK execOp_boxOH
/-- One more id. -/
def more1 (S : List Fct.Id) (d : Fct.Id) : List Fct.Id := if d ∈ S then S else S ++ [d]
/-- Behind a question about a thing of a set. -/
def tk1 (f : Fac) (s : Int) (d : Fct.Id) (S : List Fct.Id) : List Fct.Id := if s = f.S then more1 S d else S
theorem mem_more1 {S : List Fct.Id} {d x : Fct.Id} : x ∈ more1 S d ↔ x ∈ S ∨ x = d := by
  unfold more1
  split
  · rename_i h
    constructor
    · exact Or.inl
    · rintro (h2 | rfl)
      · exact h2
      · exact h
  · simp
set_option maxRecDepth 100000 in
set_option maxHeartbeats 1000000 in
theorem take_any (f : Fac) (q : Option Addr) (c : Nat) (s : Int) (d : Fct.Id) (gf gm mb : Nat) (S : List Fct.Id) (w : World) (hd : idOk d) (hF : Blk w gf (fcells f q c) 28) (hM : Blk w gm [.map (some mb)] 215) (hT : Takn w mb S) :
    Calls Tryz.prog 163 #[.int .i64 s, .agg (d.map v8).toArray, .pointer (some ⟨gf, 0, none⟩), .pointer (some ⟨gm, 0, none⟩)] w fun e w' =>
      e = .returned (.bool (decide (s = f.S))) ∧ Takn w' mb (tk1 f s d S) ∧ w.grownBy w' (some mb) := by
  have bx := run_boxOp (P := Tryz.prog) (t := 25) (cs := (d.map v8).toArray) w
  have hb1 := (Below.refl w.heap.size w).alloc (Nat.le_refl _) (.cells (d.map v8).toArray 25)
  have hk1 : Blk (w.alloc (.cells (d.map v8).toArray 25)) w.heap.size (d.map v8) 25 := Blk.new w _ 25
  obtain ⟨g0, hg0⟩ : ∃ g, g = w.heap.size := ⟨_, rfl⟩
  rw [← hg0] at bx hk1
  generalize w.alloc (.cells (d.map v8).toArray 25) = w1 at *
  have c1 : w1.cell? ⟨gf, 1, none⟩ = some (i64c f.S) := ((hF.below hb1 hF.lt).cell 1).trans (fcells_S f q c)
  have c2 : w1.cell? ⟨gm, 0, none⟩ = some (.map (some mb)) := (hM.below hb1 hM.lt).cell 0
  have l1 := load_idr (g := g0) (o := 0) hd.1 hk1.range
  have hT1 := hT.below hb1
  have HG1 := Lib.hid (below_grown hb1 (some mb))
  have HT1 := Lib.hid hT1
  obtain ⟨w2, pu, hT2, hg2⟩ := hT1.put hd
  have HT2 := Lib.hid hT2
  have HG2 := Lib.hid hg2
  clear hT1 hT2 hg2 hb1 hk1 hF hM hT hg0
  by_cases hs : s = f.S
  · have h1 : (s != f.S) = false := by simp [hs]
    have HS := Lib.hid hs
    clear hs
    go_enter Tryz.func163, Tryz.ntmps163
    go_wp2_with fail
    go_ret
    exact ⟨by rw [decide_eq_true HS.out]; rfl, by unfold tk1; rw [if_pos HS.out]; exact HT2.out, grown_trans HG1.out HG2.out⟩
  · have h1 : (s != f.S) = true := by simpa using hs
    have HS := Lib.hid hs
    clear hs
    go_enter Tryz.func163, Tryz.ntmps163
    go_wp2_with fail
    go_ret
    exact ⟨by rw [decide_eq_false HS.out]; rfl, by unfold tk1; rw [if_neg HS.out]; exact HT1.out, HG1.out⟩
theorem kcells_id (x : Int × Fct.Id) (q : Option Addr) (c : Nat) : kcells x q c = [i64c x.1] ++ x.2.map v8 ++ [] := by unfold kcells; simp
theorem hcells_id (x : Int × Int × Fct.Id) (q : Option Addr) (c : Nat) : hcells x q c = [i64c x.1, i64c x.2.1] ++ x.2.2.map v8 ++ [] := by unfold hcells; simp
theorem bcells_id (x : Fct.Id × List Int) (q : Option Addr) (c : Nat) : bcells x q c = [] ++ x.1.map v8 ++ [.slice q x.2.length c] := by unfold bcells; simp
theorem range_mid {w : World} {g o : Nat} {pre cs post : List Value} {t : TypeId} (h : Blk w g (pre ++ cs ++ post) t) (ho : pre.length = o) : w.rangeAt g o cs := fun j u hj => by
  have := cells_in (o := o) h ho j u hj
  rw [Addr.add_mid] at this; exact this
/-- What the questions of a drop stand on. -/
structure TkB (w : World) (f : Fac) (q : Option Addr) (c : Nat) (gt gf gm mb : Nat) : Prop where
  t : Blk w gt [.func (.func 163) #[] #[.pointer (some ⟨gf, 0, none⟩), .pointer (some ⟨gm, 0, none⟩)]] 221
  f : Blk w gf (fcells f q c) 28
  m : Blk w gm [.map (some mb)] 215
theorem TkB.grown {w w' : World} {f : Fac} {q : Option Addr} {c gt gf gm mb : Nat} {row : Option Nat} (h : TkB w f q c gt gf gm mb) (hg : w.grownBy w' row) (hr : ∀ k cs t, row = some k → Blk w k cs t → t ≠ 221 ∧ t ≠ 28 ∧ t ≠ 215) : TkB w' f q c gt gf gm mb :=
  ⟨blk_grown h.t hg fun e => (hr _ _ _ e h.t).1 rfl, blk_grown h.f hg fun e => (hr _ _ _ e h.f).2.1 rfl, blk_grown h.m hg fun e => (hr _ _ _ e h.m).2.2 rfl⟩
set_option maxRecDepth 100000 in
set_option maxHeartbeats 1000000 in
theorem tk2_any (x : Int × Fct.Id) (xq : Option Addr) (xc : Nat) (hx : sK.ok x) (f : Fac) (q : Option Addr) (c gt gf gm mb : Nat) (S : List Fct.Id) (w : World) (hB : TkB w f q c gt gf gm mb) (hT : Takn w mb S) :
    Calls Tryz.prog 165 #[.agg (kcells x xq xc).toArray, .pointer (some ⟨gt, 0, none⟩)] w fun e w' =>
      e = .returned (.bool (decide (x.1 = f.S))) ∧ Takn w' mb (tk1 f x.1 x.2 S) ∧ w.grownBy w' (some mb) := by
  have bx := run_boxOp (P := Tryz.prog) (t := 95) (cs := (kcells x xq xc).toArray) w
  have hb1 := (Below.refl w.heap.size w).alloc (Nat.le_refl _) (.cells (kcells x xq xc).toArray 95)
  have hk1 : Blk (w.alloc (.cells (kcells x xq xc).toArray 95)) w.heap.size (kcells x xq xc) 95 := Blk.new w _ 95
  obtain ⟨g0, hg0⟩ : ∃ g, g = w.heap.size := ⟨_, rfl⟩
  rw [← hg0] at bx hk1
  generalize w.alloc (.cells (kcells x xq xc).toArray 95) = w1 at *
  have c1 : w1.cell? ⟨gt, 0, none⟩ = some (.func (.func 163) #[] #[.pointer (some ⟨gf, 0, none⟩), .pointer (some ⟨gm, 0, none⟩)]) := (hB.t.below hb1 hB.t.lt).cell 0
  have c2 : w1.cell? ⟨g0, 0, none⟩ = some (i64c x.1) := hk1.cell 0
  rw [kcells_id] at hk1
  have l1 := load_idr (g := g0) (o := 1) hx.2.1 (range_mid hk1 rfl)
  have HT := Lib.hid (take_any f q c x.1 x.2 gf gm mb S w1 hx.2 (hB.f.below hb1 hB.f.lt) (hB.m.below hb1 hB.m.lt) (hT.below hb1))
  have HG1 := Lib.hid (below_grown hb1 (some mb))
  clear hb1 hk1 hB hT hg0
  go_enter Tryz.func165, Tryz.ntmps165
  go_wp2_with fail
  refine HT.out.mono ?_
  rintro e w2 ⟨rfl, hT2, hg2⟩
  have HT2 := Lib.hid hT2
  have HG2 := Lib.hid (grown_trans HG1.out hg2)
  clear hT2 hg2
  go_wp2_with fail
  go_ret
  exact ⟨rfl, HT2.out, HG2.out⟩
set_option maxRecDepth 100000 in
set_option maxHeartbeats 1000000 in
theorem tk3_any (x : Int × Int × Fct.Id) (xq : Option Addr) (xc : Nat) (hx : sH.ok x) (f : Fac) (q : Option Addr) (c gt gf gm mb : Nat) (S : List Fct.Id) (w : World) (hB : TkB w f q c gt gf gm mb) (hT : Takn w mb S) :
    Calls Tryz.prog 167 #[.agg (hcells x xq xc).toArray, .pointer (some ⟨gt, 0, none⟩)] w fun e w' =>
      e = .returned (.bool (decide (x.2.1 = f.S))) ∧ Takn w' mb (tk1 f x.2.1 x.2.2 S) ∧ w.grownBy w' (some mb) := by
  have bx := run_boxOp (P := Tryz.prog) (t := 97) (cs := (hcells x xq xc).toArray) w
  have hb1 := (Below.refl w.heap.size w).alloc (Nat.le_refl _) (.cells (hcells x xq xc).toArray 97)
  have hk1 : Blk (w.alloc (.cells (hcells x xq xc).toArray 97)) w.heap.size (hcells x xq xc) 97 := Blk.new w _ 97
  obtain ⟨g0, hg0⟩ : ∃ g, g = w.heap.size := ⟨_, rfl⟩
  rw [← hg0] at bx hk1
  generalize w.alloc (.cells (hcells x xq xc).toArray 97) = w1 at *
  have c1 : w1.cell? ⟨gt, 0, none⟩ = some (.func (.func 163) #[] #[.pointer (some ⟨gf, 0, none⟩), .pointer (some ⟨gm, 0, none⟩)]) := (hB.t.below hb1 hB.t.lt).cell 0
  have c2 : w1.cell? ⟨g0, 1, none⟩ = some (i64c x.2.1) := hk1.cell 1
  rw [hcells_id] at hk1
  have l1 := load_idr (g := g0) (o := 2) hx.2.2.1 (range_mid hk1 rfl)
  have HT := Lib.hid (take_any f q c x.2.1 x.2.2 gf gm mb S w1 hx.2.2 (hB.f.below hb1 hB.f.lt) (hB.m.below hb1 hB.m.lt) (hT.below hb1))
  have HG1 := Lib.hid (below_grown hb1 (some mb))
  clear hb1 hk1 hB hT hg0
  go_enter Tryz.func167, Tryz.ntmps167
  go_wp2_with fail
  refine HT.out.mono ?_
  rintro e w2 ⟨rfl, hT2, hg2⟩
  have HT2 := Lib.hid hT2
  have HG2 := Lib.hid (grown_trans HG1.out hg2)
  clear hT2 hg2
  go_wp2_with fail
  go_ret
  exact ⟨rfl, HT2.out, HG2.out⟩
set_option maxRecDepth 100000 in
set_option maxHeartbeats 1000000 in
theorem rl1_any (x : Fct.Id × List Int) (xq : Option Addr) (xc : Nat) (hx : sB.ok x) (gb mb : Nat) (S : List Fct.Id) (w : World) (hB : Blk w gb [.map (some mb)] 215) (hT : Takn w mb S) :
    Calls Tryz.prog 179 #[.agg (bcells x xq xc).toArray, .pointer (some ⟨gb, 0, none⟩)] w fun e w' => e = .returned (.bool (decide (x.1 ∈ S))) ∧ Below w.heap.size w w' := by
  have bx := run_boxOp (P := Tryz.prog) (t := 93) (cs := (bcells x xq xc).toArray) w
  have hb1 := (Below.refl w.heap.size w).alloc (Nat.le_refl _) (.cells (bcells x xq xc).toArray 93)
  have hk1 : Blk (w.alloc (.cells (bcells x xq xc).toArray 93)) w.heap.size (bcells x xq xc) 93 := Blk.new w _ 93
  obtain ⟨g0, hg0⟩ : ∃ g, g = w.heap.size := ⟨_, rfl⟩
  rw [← hg0] at bx hk1
  generalize w.alloc (.cells (bcells x xq xc).toArray 93) = w1 at *
  have c1 : w1.cell? ⟨gb, 0, none⟩ = some (.map (some mb)) := (hB.below hb1 hB.lt).cell 0
  rw [bcells_id] at hk1
  have l1 := load_idr (g := g0) (o := 0) hx.1.1 (range_mid hk1 rfl)
  have lk := (hT.below hb1).look hx.1
  have HB1 := Lib.hid hb1
  clear hb1 hk1 hB hT hg0
  by_cases hs : x.1 ∈ S
  · rw [if_pos hs] at lk
    rw [decide_eq_true hs]
    clear hs
    go_enter Tryz.func179, Tryz.ntmps179
    go_wp2_with fail
    go_ret
    exact ⟨rfl, HB1.out⟩
  · rw [if_neg hs] at lk
    rw [decide_eq_false hs]
    clear hs
    go_enter Tryz.func179, Tryz.ntmps179
    go_wp2_with fail
    go_ret
    exact ⟨rfl, HB1.out⟩
end
end Go.Proofs.YtokpabkcaofahaaGreat
