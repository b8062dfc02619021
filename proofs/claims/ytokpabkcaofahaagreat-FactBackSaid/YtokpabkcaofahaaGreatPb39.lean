/-
  The program's place at api.Decision: a thing is laid where it belongs, if it isn't there (written by mk9.py from Pl.src).
  A state's object behind a thing laid into one of its rows (written by mkpl9.py).
  The program's refer: a set keeps an id, a home lacks one, if its blob is there.
  The program's do: one fact, which may be, done to a state's object (all kinds but votes').
-/
import Derived.Test.YtokpabkcaofahaaGreatPb38
import Derived.Test.YtokpabkcaofahaaGreatPb26
import Derived.Test.YtokpabkcaofahaaGreatPb35
import Derived.Test.YtokpabkcaofahaaGreatPb36
import Derived.Test.YtokpabkcaofahaaGreatPb37
namespace Go.Proofs.YtokpabkcaofahaaGreat
section
set_option linter.unusedSimpArgs false
set_option linter.unusedVariables false
open Go.RowKit Sha Fct
theorem info2_D : (Tryz.prog.info? 73).map (fun i => (i.zero, i.size)) = some (some (.agg (dcells9 (0, []) none 0).toArray), 2) := by unfold dcells9; kernel_rfl
theorem execOp_buildOD (ρ : Operand → Value) (dst : Option Tmp) (len : Nat) (parts : Array (Nat × Operand)) (ty : TypeId) (pos : String) (after : Array Edge) (guard : Option (Nat × Bool)) :
    execOp ρ { dst := dst, op := .buildSlice 45 len parts, type := ty, pos := pos, after := after, guard := guard } = buildOp 45 len (parts.map fun (i, x) => (i, ρ x)) := by unfold buildOp; rfl
theorem build_OD (w : World) {x : Int × List Int} (hx : sD.ok x) (q : Option Addr) (c : Nat) : (buildOp 45 1 #[(0, .agg (dcells9 x q c).toArray)]).run Tryz.prog w = .ok (.value (.slice (some ⟨w.heap.size, 0, none⟩) 1 1)) (w.alloc (.cells (dcells9 x q c).toArray 73)) := by
  have hl : (dcells9 x q c).length = 2 := sD.len q c hx
  have := run_build_items (P := Tryz.prog) w 45 73 2 _ (by omega) Tryz.underlying45 info2_D [dcells9 x q c] (by intro d hd; simp at hd; subst hd; exact hl) (by simp)
  exact run_buildOp (by simpa using this)
theorem t8_D : (5 : TypeId) ≠ 73 := by decide
/-- What place leaves. -/
def PlcD (w : World) (B : Nat) (v : Value) (l : List (Int × List Int)) (x : Int × List Int) (e : Ending) (w' : World) : Prop :=
  ∃ v' zs, e = .returned (.tuple #[v', .int .i64 (Rise.place dkey ilt (dkey x) l : Nat)]) ∧ Rws sD 73 w' B v' zs ∧ zs.map (·.1) = Rise.add dkey ilt x l ∧ w.grownBy w' v.ownBlock ∧ RowTy w v.ownBlock 73 ∧ (∀ g, v'.ownBlock = some g → v.ownBlock = some g ∨ w.heap.size ≤ g)
attribute [local go_sem ↓] execOp_loadOD execOp_boxOD execOp_buildOD
set_option maxRecDepth 100000 in
set_option maxHeartbeats 2000000 in
theorem place_D (w : World) (B : Nat) (v : Value) (ys : List (Hd (Int × List Int))) (h : Rws sD 73 w B v ys) (hup : Rise.Up dkey ilt (ys.map (·.1))) (x : Int × List Int) (q : Option Addr) (d : Nat) (hx : sD.Good w x q d) (hu : U8 w q (sD.byt x)) (hn : ys.length ≤ 1000000000) (hB : B ≤ w.heap.size) :
    Calls Tryz.prog 133 #[v, .agg (dcells9 x q d).toArray, .func (.func 134) #[] #[]] w (PlcD w B v (ys.map (·.1)) x) := by
  obtain ⟨p, c, rfl, ht⟩ := h.told
  obtain ⟨n, hnl⟩ : ∃ n, n = ys.length := ⟨_, rfl⟩
  rw [← hnl] at ht hn
  have bx := run_boxOp (P := Tryz.prog) (t := 73) (cs := (dcells9 x q d).toArray) w
  have hb1 := (Below.refl w.heap.size w).alloc (Nat.le_refl _) (.cells (dcells9 x q d).toArray 73)
  have hk1 : Blk (w.alloc (.cells (dcells9 x q d).toArray 73)) w.heap.size (dcells9 x q d) 73 := Blk.new w _ 73
  obtain ⟨w1, hw1⟩ : ∃ v, v = w.alloc (.cells (dcells9 x q d).toArray 73) := ⟨_, rfl⟩
  rw [← hw1] at bx hb1 hk1
  obtain ⟨g0, hg0⟩ : ∃ g, g = w.heap.size := ⟨_, rfl⟩
  rw [← hg0] at bx hk1
  have HBS := Lib.hid (bs_D (ys.map (·.1)) p n c w1 (ht.below hb1) hup x q d hx.ok hn)
  obtain ⟨l, hl⟩ : ∃ l, l = ys.map (·.1) := ⟨_, rfl⟩
  rw [← hl] at HBS hup ht ⊢
  obtain ⟨pl, hpl⟩ : ∃ k, k = Rise.place dkey ilt (dkey x) l := ⟨_, rfl⟩
  have hple : pl ≤ n := by rw [hpl, ht.len]; exact Rise.place_le _ _
  have HPL := Lib.hid hpl
  have HL := Lib.hid hl
  have HNL := Lib.hid hnl
  have HB1 := Lib.hid hb1
  have HK := Lib.hid hk1
  have HR := Lib.hid h
  have HX := Lib.hid hx
  have HU := Lib.hid hu
  rw [← hpl] at HBS
  rw [← hnl]
  clear hw1 hg0 hpl hl hnl hb1 hk1 h hup hx hu ht
  cases hf : Rise.found dkey ilt (dkey x) l with
  | true =>
    rw [hf] at HBS
    have HQ := Lib.hid (Rise.add_found (x := x) hf)
    clear hf
    have l1 := load_OD HX.out.ok HK.out.range
    go_enter Tryz.func133, Tryz.ntmps133
    go_wp2_with fail
    refine HBS.out.mono ?_
    rintro e w2 ⟨rfl, hb2⟩
    have HB2 := Lib.hid (HB1.out.trans (hb2.mono HB1.out.size))
    clear hb2
    go_wp2_with fail
    go_ret2
    refine ⟨.slice p n c, ys, by rw [← HPL.out]; rfl, ?_, by rw [HQ.out, HL.out], ⟨HB2.out.os, HB2.out.tape, HB2.out.output, HB2.out.size, fun k hk _ => HB2.out.block k hk⟩, ?_, fun g hg => Or.inl hg⟩
    · have h2 := HR.out.below HB2.out
      rw [HNL.out]; exact h2
    · have h2 := RowTy.of HR.out.own
      rw [HNL.out]; exact h2
  | false =>
    rw [hf] at HBS
    have HQ := Lib.hid (Rise.add_new (x := x) hf)
    clear hf
    have l1 := load_OD HX.out.ok HK.out.range
    go_enter Tryz.func133, Tryz.ntmps133
    go_wp2_with fail
    refine HBS.out.mono ?_
    rintro e w2 ⟨rfl, hb2⟩
    have HB2 := Lib.hid (HB1.out.trans (hb2.mono HB1.out.size))
    have HK2 := Lib.hid (HK.out.below hb2 HK.out.lt)
    have HR2 := Lib.hid (HR.out.below HB2.out)
    have lx := load_OD HX.out.ok HK2.out.range
    have bi := build_OD w2 HX.out.ok q d
    have hb3 := HB2.out.alloc HB2.out.size (.cells (dcells9 x q d).toArray 73)
    have hb23 := (Below.refl w2.heap.size w2).alloc (Nat.le_refl _) (.cells (dcells9 x q d).toArray 73)
    have hk3 : Blk (w2.alloc (.cells (dcells9 x q d).toArray 73)) w2.heap.size (dcells9 x q d) 73 := Blk.new w2 _ 73
    have hr3 := HR2.out.below hb23
    have hlt3 := fun k hk => (HR2.out.own.lt k hk).2
    obtain ⟨pb, hpb⟩ : ∃ g, g = w2.heap.size := ⟨_, rfl⟩
    rw [← hpb] at bi hk3
    have HNE := Lib.hid (show (Value.slice p n c).ownBlock ≠ some pb from fun e => by
      have h2 := hlt3 pb (by rw [← HNL.out]; exact e)
      omega)
    generalize w2.alloc (.cells (dcells9 x q d).toArray 73) = w3 at *
    have HIN := Lib.hid (ins_D w3 B (.slice p n c) n (ys.flatMap sD.row) (by have h2 := hr3.own; rw [← HNL.out] at h2; exact h2) (Shp.flat_one ys) pl hple pb (dcells9 x q d) (sD.len q d HX.out.ok) (sD.one x q d) hk3 HNE.out hn (Nat.le_trans hB hb3.size))
    have HB3 := Lib.hid hb3
    have HR3 := Lib.hid hr3
    clear hb2 hb23 hk3 hr3 hlt3 hpb hb3 HBS
    go_wp2_with fail
    refine HIN.out.mono ?_
    rintro e w4 ⟨v4, rfl, ho4, hg4, ha4⟩
    have HO4 := Lib.hid ho4
    have HG4 := Lib.hid hg4
    have HA4 := Lib.hid ha4
    clear ho4 hg4 ha4
    go_wp2_with fail
    go_ret2
    have hfl : (ys.flatMap sD.row).take (pl * 2) ++ dcells9 x q d ++ (ys.flatMap sD.row).drop (pl * 2) = (ys.take pl ++ (x, q, d) :: ys.drop pl).flatMap sD.row := by
      have h1 := flat_takeS (S := sD) ys HR.out.ok pl
      have h2 := flat_dropS (S := sD) ys HR.out.ok pl
      rw [List.flatMap_append, List.flatMap_cons, ← h1, ← h2, List.append_assoc]; rfl
    have hty : RowTy w3 (Value.slice p n c).ownBlock 73 := by have h2 := RowTy.of HR3.out.own; rw [← HNL.out] at h2; exact h2
    have hll : (ys.take pl ++ (x, q, d) :: ys.drop pl).length = n + 1 := by
      rw [List.length_append, List.length_cons, List.length_take, List.length_drop, ← HNL.out]; omega
    refine ⟨v4, ys.take pl ++ (x, q, d) :: ys.drop pl, by rw [← HPL.out]; rfl, ⟨?_, ?_⟩, ?_, ?_, ?_, ?_⟩
    · rw [hll, ← hfl]; exact HO4.out
    · intro y hy
      have hold : ∀ y ∈ ys, sD.Good w4 y.1 y.2.1 y.2.2 ∧ U8 w4 y.2.1 (sD.byt y.1) := fun y hy =>
        ⟨good_grown (HR3.out.good y hy).1 (HR3.out.good y hy).2 HG4.out hty t8_D, u8_grown (HR3.out.good y hy).2 HG4.out hty t8_D⟩
      rcases List.mem_append.1 hy with hy | hy
      · exact hold y (List.mem_of_mem_take hy)
      · rcases List.mem_cons.1 hy with rfl | hy
        · exact ⟨good_grown (HX.out.below HB3.out) (HU.out.below HB3.out) HG4.out hty t8_D, u8_grown (HU.out.below HB3.out) HG4.out hty t8_D⟩
        · exact hold y (List.mem_of_mem_drop hy)
    · rw [HQ.out, ← HPL.out, HL.out]; simp
    · exact ⟨HG4.out.os.trans HB3.out.os, HG4.out.tape.trans HB3.out.tape, HG4.out.output.trans HB3.out.output, Nat.le_trans HB3.out.size HG4.out.size, fun k hk hne => (HG4.out.block k (Nat.lt_of_lt_of_le hk HB3.out.size) hne).trans (HB3.out.block k hk)⟩
    · have h2 := RowTy.of HR.out.own
      rw [← HNL.out] at h2; exact h2
    · intro g hg
      rcases HA4.out g hg with h2 | h2
      · exact Or.inl h2
      · exact Or.inr (Nat.le_trans HB3.out.size h2)
end
section
set_option linter.unusedSimpArgs false
set_option linter.unusedVariables false
open Go.RowKit Sha Fct
theorem plcS_B {w w2 w3 : World} {B g : Nat} {s : Ste} {r : Rows9} {v' : Value} {zs : List (Hd _)} (h : StO w B g s r) (hb : Below w.heap.size w w2) (hr : Rws sB 93 w3 B v' zs) (hg : w2.grownBy w3 r.vb.ownBlock) :
    w3.cell? ⟨g, 2, none⟩ = some r.vb ∧ w3.frozen? ⟨g, 2, none⟩ = false ∧ StO (w3.setCell ⟨g, 2, none⟩ v') B g { s with blobs := zs.map (·.1) } { r with vb := v', yb := zs } ∧ Chg (fun k => Own9 w B g k ∨ False) w (w3.setCell ⟨g, 2, none⟩ v') ∧
      ∀ {gf cs}, Blk w2 gf cs 28 → Blk (w3.setCell ⟨g, 2, none⟩ v') gf cs 28 := by
  have h2 := h.below hb
  have hc : Chg (fun k => r.vb.ownBlock = some k ∨ False) w2 w3 := (Chg.refl _ w2).grown hg fun k hk _ => Or.inl hk
  have hno : ∀ {k cs t}, Blk w2 k cs t → t ≠ 93 → ¬ (r.vb.ownBlock = some k ∨ False) := by
    rintro k cs t hk ht (e | e)
    · obtain ⟨c2, f2, h3⟩ := RowTy.of h2.b.own k e
      unfold Blk at hk
      rw [hk] at h3; simp at h3; exact ht h3.2.1
    · exact e
  have hb3 := hc.blk h2.blk (hno h2.blk (by decide))
  obtain ⟨k1, k2⟩ := h2.setB (X := fun _ => False) (fun k e => e.elim) hc hr
  refine ⟨hb3.cell 2, hb3.free 2, k1, chg9_trans ((Chg.refl _ w).grown (below_grown hb none) fun k hk => by cases hk) k2, fun {gf cs} hf => ?_⟩
  have hfg : gf ≠ g := fun e => by subst e; exact absurd (blk_ty hf h2.blk) (by decide)
  exact (hc.blk hf (hno hf (by decide))).setOther _ _ hfg
theorem plcS_K {w w2 w3 : World} {B g : Nat} {s : Ste} {r : Rows9} {v' : Value} {zs : List (Hd _)} (h : StO w B g s r) (hb : Below w.heap.size w w2) (hr : Rws sK 95 w3 B v' zs) (hg : w2.grownBy w3 r.vk.ownBlock) :
    w3.cell? ⟨g, 3, none⟩ = some r.vk ∧ w3.frozen? ⟨g, 3, none⟩ = false ∧ StO (w3.setCell ⟨g, 3, none⟩ v') B g { s with keeps := zs.map (·.1) } { r with vk := v', yk := zs } ∧ Chg (fun k => Own9 w B g k ∨ False) w (w3.setCell ⟨g, 3, none⟩ v') ∧
      ∀ {gf cs}, Blk w2 gf cs 28 → Blk (w3.setCell ⟨g, 3, none⟩ v') gf cs 28 := by
  have h2 := h.below hb
  have hc : Chg (fun k => r.vk.ownBlock = some k ∨ False) w2 w3 := (Chg.refl _ w2).grown hg fun k hk _ => Or.inl hk
  have hno : ∀ {k cs t}, Blk w2 k cs t → t ≠ 95 → ¬ (r.vk.ownBlock = some k ∨ False) := by
    rintro k cs t hk ht (e | e)
    · obtain ⟨c2, f2, h3⟩ := RowTy.of h2.k.own k e
      unfold Blk at hk
      rw [hk] at h3; simp at h3; exact ht h3.2.1
    · exact e
  have hb3 := hc.blk h2.blk (hno h2.blk (by decide))
  obtain ⟨k1, k2⟩ := h2.setK (X := fun _ => False) (fun k e => e.elim) hc hr
  refine ⟨hb3.cell 3, hb3.free 3, k1, chg9_trans ((Chg.refl _ w).grown (below_grown hb none) fun k hk => by cases hk) k2, fun {gf cs} hf => ?_⟩
  have hfg : gf ≠ g := fun e => by subst e; exact absurd (blk_ty hf h2.blk) (by decide)
  exact (hc.blk hf (hno hf (by decide))).setOther _ _ hfg
theorem plcS_H {w w2 w3 : World} {B g : Nat} {s : Ste} {r : Rows9} {v' : Value} {zs : List (Hd _)} (h : StO w B g s r) (hb : Below w.heap.size w w2) (hr : Rws sH 97 w3 B v' zs) (hg : w2.grownBy w3 r.vh.ownBlock) :
    w3.cell? ⟨g, 4, none⟩ = some r.vh ∧ w3.frozen? ⟨g, 4, none⟩ = false ∧ StO (w3.setCell ⟨g, 4, none⟩ v') B g { s with hints := zs.map (·.1) } { r with vh := v', yh := zs } ∧ Chg (fun k => Own9 w B g k ∨ False) w (w3.setCell ⟨g, 4, none⟩ v') ∧
      ∀ {gf cs}, Blk w2 gf cs 28 → Blk (w3.setCell ⟨g, 4, none⟩ v') gf cs 28 := by
  have h2 := h.below hb
  have hc : Chg (fun k => r.vh.ownBlock = some k ∨ False) w2 w3 := (Chg.refl _ w2).grown hg fun k hk _ => Or.inl hk
  have hno : ∀ {k cs t}, Blk w2 k cs t → t ≠ 97 → ¬ (r.vh.ownBlock = some k ∨ False) := by
    rintro k cs t hk ht (e | e)
    · obtain ⟨c2, f2, h3⟩ := RowTy.of h2.h.own k e
      unfold Blk at hk
      rw [hk] at h3; simp at h3; exact ht h3.2.1
    · exact e
  have hb3 := hc.blk h2.blk (hno h2.blk (by decide))
  obtain ⟨k1, k2⟩ := h2.setH (X := fun _ => False) (fun k e => e.elim) hc hr
  refine ⟨hb3.cell 4, hb3.free 4, k1, chg9_trans ((Chg.refl _ w).grown (below_grown hb none) fun k hk => by cases hk) k2, fun {gf cs} hf => ?_⟩
  have hfg : gf ≠ g := fun e => by subst e; exact absurd (blk_ty hf h2.blk) (by decide)
  exact (hc.blk hf (hno hf (by decide))).setOther _ _ hfg
theorem plcS_V {w w2 w3 : World} {B g : Nat} {s : Ste} {r : Rows9} {v' : Value} {zs : List (Hd _)} (h : StO w B g s r) (hb : Below w.heap.size w w2) (hr : Rws sV 62 w3 B v' zs) (hg : w2.grownBy w3 r.vv.ownBlock) :
    w3.cell? ⟨g, 5, none⟩ = some r.vv ∧ w3.frozen? ⟨g, 5, none⟩ = false ∧ StO (w3.setCell ⟨g, 5, none⟩ v') B g { s with votes := zs.map (·.1) } { r with vv := v', yv := zs } ∧ Chg (fun k => Own9 w B g k ∨ False) w (w3.setCell ⟨g, 5, none⟩ v') ∧
      ∀ {gf cs}, Blk w2 gf cs 28 → Blk (w3.setCell ⟨g, 5, none⟩ v') gf cs 28 := by
  have h2 := h.below hb
  have hc : Chg (fun k => r.vv.ownBlock = some k ∨ False) w2 w3 := (Chg.refl _ w2).grown hg fun k hk _ => Or.inl hk
  have hno : ∀ {k cs t}, Blk w2 k cs t → t ≠ 62 → ¬ (r.vv.ownBlock = some k ∨ False) := by
    rintro k cs t hk ht (e | e)
    · obtain ⟨c2, f2, h3⟩ := RowTy.of h2.v.own k e
      unfold Blk at hk
      rw [hk] at h3; simp at h3; exact ht h3.2.1
    · exact e
  have hb3 := hc.blk h2.blk (hno h2.blk (by decide))
  obtain ⟨k1, k2⟩ := h2.setV (X := fun _ => False) (fun k e => e.elim) hc hr
  refine ⟨hb3.cell 5, hb3.free 5, k1, chg9_trans ((Chg.refl _ w).grown (below_grown hb none) fun k hk => by cases hk) k2, fun {gf cs} hf => ?_⟩
  have hfg : gf ≠ g := fun e => by subst e; exact absurd (blk_ty hf h2.blk) (by decide)
  exact (hc.blk hf (hno hf (by decide))).setOther _ _ hfg
theorem plcS_D {w w2 w3 : World} {B g : Nat} {s : Ste} {r : Rows9} {v' : Value} {zs : List (Hd _)} (h : StO w B g s r) (hb : Below w.heap.size w w2) (hr : Rws sD 73 w3 B v' zs) (hg : w2.grownBy w3 r.vd.ownBlock) :
    w3.cell? ⟨g, 6, none⟩ = some r.vd ∧ w3.frozen? ⟨g, 6, none⟩ = false ∧ StO (w3.setCell ⟨g, 6, none⟩ v') B g { s with decs := zs.map (·.1) } { r with vd := v', yd := zs } ∧ Chg (fun k => Own9 w B g k ∨ False) w (w3.setCell ⟨g, 6, none⟩ v') ∧
      ∀ {gf cs}, Blk w2 gf cs 28 → Blk (w3.setCell ⟨g, 6, none⟩ v') gf cs 28 := by
  have h2 := h.below hb
  have hc : Chg (fun k => r.vd.ownBlock = some k ∨ False) w2 w3 := (Chg.refl _ w2).grown hg fun k hk _ => Or.inl hk
  have hno : ∀ {k cs t}, Blk w2 k cs t → t ≠ 73 → ¬ (r.vd.ownBlock = some k ∨ False) := by
    rintro k cs t hk ht (e | e)
    · obtain ⟨c2, f2, h3⟩ := RowTy.of h2.d.own k e
      unfold Blk at hk
      rw [hk] at h3; simp at h3; exact ht h3.2.1
    · exact e
  have hb3 := hc.blk h2.blk (hno h2.blk (by decide))
  obtain ⟨k1, k2⟩ := h2.setD (X := fun _ => False) (fun k e => e.elim) hc hr
  refine ⟨hb3.cell 6, hb3.free 6, k1, chg9_trans ((Chg.refl _ w).grown (below_grown hb none) fun k hk => by cases hk) k2, fun {gf cs} hf => ?_⟩
  have hfg : gf ≠ g := fun e => by subst e; exact absurd (blk_ty hf h2.blk) (by decide)
  exact (hc.blk hf (hno hf (by decide))).setOther _ _ hfg
end
section
set_option linter.unusedSimpArgs false
set_option linter.unusedVariables false
open Go.RowKit Sha Fct
attribute [local go_sem ↓] execOp_boxFact execOp_loadFact execOp_loadId execOp_makeOB execOp_makeOK
theorem hasB_found {s : Ste} (hup : Rise.Up bkey Sha.less s.blobs) (hok : ∀ x ∈ s.blobs, idOk x.1) {d : Fct.Id} (hd : idOk d) : Rise.found bkey Sha.less d s.blobs = hasB s d := by
  cases hf : Rise.found bkey Sha.less d s.blobs with
  | true =>
    obtain ⟨h1, h2⟩ := (Rise.found_iff (key := bkey) (lt := Sha.less) d s.blobs).1 hf
    exact ((hasB_iff s d).2 ⟨_, List.getElem_mem h1, h2⟩).symm
  | false =>
    have hno := Rise.found_no hf
    cases hb : hasB s d with
    | false => rfl
    | true =>
      obtain ⟨x, hx, rfl⟩ := (hasB_iff s d).1 hb
      have := Rise.Up.look_of id_ord hup (y := x) hx
      rw [show Rise.look bkey Sha.less (bkey x) s.blobs = none from hno] at this; cases this
theorem good0 {V : Type} {S : Shp V} (w : World) {x : V} (h : S.ok x) (hb : S.byt x = []) : S.Good w x none 0 ∧ U8 w none (S.byt x) :=
  ⟨⟨h, by rw [hb]; exact Or.inl rfl, by rw [hb]; exact Nat.le_refl _, by omega, fun _ => rfl⟩, Or.inl hb⟩
/-- What the row ends find, behind the first region: the object, the fact, in some world. -/
structure RfB (w w2 : World) (B g gf : Nat) (s : Ste) (r : Rows9) (f : Fac) (q : Option Addr) (c : Nat) : Prop where
  below : Below w.heap.size w w2
  so : StO w2 B g s r
  fb : Blk w2 gf (fcells f q c) 28
theorem RfB.drew {w w2 : World} {B g gf : Nat} {s : Ste} {r : Rows9} {f : Fac} {q : Option Addr} {c : Nat} (h : RfB w w2 B g gf s r f q c) : RfB w w2.drew B g gf s r f q c := ⟨h.below.drew, h.so.below (Below.refl _ _).drew, h.fb⟩
set_option maxRecDepth 100000 in
set_option maxHeartbeats 4000000 in
theorem refer_any (w : World) (B g : Nat) (s : Ste) (r : Rows9) (f : Fac) (q : Option Addr) (c : Nat) (h : StO w B g s r) (hf : f.K = 4 ∨ f.K = 5) (hok : sF.ok f) (hd : idOk f.D) (hup : Rise.Up bkey Sha.less s.blobs) (hup1 : Rise.Up id klt s.keeps) (hup2 : Rise.Up id hlt s.hints) (hn : r.yb.length ≤ 1000000000) (hn1 : r.yk.length ≤ 1000000000) (hn2 : r.yh.length ≤ 1000000000) (hB : B ≤ w.heap.size) :
    Calls Tryz.prog 130 #[.pointer (some ⟨g, 0, none⟩), .agg (fcells f q c).toArray] w (StOP B g (fun _ => False) (s.on f) w) := by
  obtain ⟨pb, cb, hvb, htb⟩ := h.b.told
  obtain ⟨pk, ck, hvk, _⟩ := h.k.told
  obtain ⟨ph, ch, hvh, _⟩ := h.h.told
  obtain ⟨w1, hb⟩ := fbx9 w f q c
  have bx := hb.b1
  have hk1 := hb.k1
  obtain ⟨gf, hgf⟩ : ∃ b, b = w.heap.size := ⟨_, rfl⟩
  rw [← hgf] at bx hk1
  clear hgf
  have hD := hok.len
  have v1 : w1.cell? ⟨g, 2, none⟩ = some (.slice pb r.yb.length cb) := by rw [(h.below hb.below).blk.cell 2, ← hvb]; rfl
  obtain ⟨I, W, hC⟩ := cls_of w1
  have hne : Nonempty I := hC.ne
  have vW := hC.cell v1
  have lW := fun n => fact_id (hk1.below (hC.back n) hk1.lt) hD
  have mk := fun w => makeOBi f.D hD w
  have hfound : Rise.found bkey Sha.less (bkey ((f.D, []) : Fct.Id × List Int)) (r.yb.map (·.1)) = hasB s f.D := by
    rw [h.be]
    exact hasB_found hup (fun x hx => by
      rw [← h.be] at hx
      obtain ⟨y, hy, rfl⟩ := List.mem_map.1 hx
      exact (h.b.ok y hy).1) hd
  obtain ⟨hs, hhs⟩ : ∃ b, b = hasB s f.D := ⟨_, rfl⟩
  rw [← hhs] at hfound
  have QB := Lib.hid (hC.call (P := Tryz.prog) (f := 149) (args := #[.slice pb r.yb.length cb, .agg (bcells (f.D, []) none 0).toArray, .func (.func 129) #[] #[]]) (v := .tuple #[.int .i64 (Rise.place bkey Sha.less (bkey ((f.D, []) : Fct.Id × List Int)) (r.yb.map (·.1)) : Nat), .bool hs]) (fun w' hbw => by
    have h2 := bs_B (r.yb.map (·.1)) pb r.yb.length cb w' ((htb.below hb.below).below hbw) (by rw [h.be]; exact hup) (f.D, []) none 0 ⟨hd, by simp⟩ hn
    rw [hfound] at h2
    exact h2))
  have HC := Lib.hid hC
  have HR := Lib.hid (fun n => (show RfB w (W n) B g gf s r f q c from ⟨hb.below.trans ((hC.back n).mono hb.below.size), (h.below hb.below).below (hC.back n), hk1.below (hC.back n) hk1.lt⟩))
  have HF := Lib.hid hf
  have HOK := Lib.hid hok
  have HD := Lib.hid hd
  have HL := Lib.hid hD
  have HVK := Lib.hid hvk
  have HVH := Lib.hid hvh
  have HU1 := Lib.hid (show Rise.Up id klt (r.yk.map (·.1)) by rw [h.ke]; exact hup1)
  have HU2 := Lib.hid (show Rise.Up id hlt (r.yh.map (·.1)) by rw [h.he]; exact hup2)
  have HKE := Lib.hid h.ke
  have HHE := Lib.hid h.he
  have HN1 := Lib.hid hn1
  have HN2 := Lib.hid hn2
  have HBW := Lib.hid hB
  have HHS := Lib.hid hhs
  generalize Rise.place bkey Sha.less (bkey ((f.D, []) : Fct.Id × List Int)) (r.yb.map (·.1)) = pl at *
  obtain ⟨nb, hnb⟩ : ∃ n, n = r.yb.length := ⟨_, rfl⟩
  rw [← hnb] at v1 vW QB
  clear hb h hk1 hf hok hd hD hvk hvh hvb htb hup hup1 hup2 hn hn1 hn2 hB hhs hfound hC hnb
  go_enter Tryz.func130, Tryz.ntmps130
  go_wp2_with fail
  refine wp_region_cls W (by kernel_rfl) (by kernel_rfl) HC.out.one ?_
  repeat go_big_quiet_step ((go_at_call 149; exact QB.out _))
  refine wpQuiet_nil ?_
  rintro _ ⟨nq, rfl⟩
  have HR2 := Lib.hid (HR.out nq)
  clear lW vW QB HR HC v1 hne mk
  generalize W nq = w2 at *
  clear W
  cases hs with
  | false =>
    go_wp2_with fail
    go_end0
    have e : s.on f = s := by
      rcases HF.out with hk | hk
      · rw [on_4 s hk]; unfold Ste.keep; rw [← HHS.out]; simp
      · rw [on_5 s hk]; unfold Ste.hint; rw [← HHS.out]; simp
    rw [e]
    exact ⟨rfl, r, HR2.out.so, (Chg.refl _ w).grown (below_grown HR2.out.below none) fun k hk => by cases hk⟩
  | true =>
    have hR3 := HR2.out.drew
    have cK : w2.cell? ⟨gf, 0, none⟩ = some (i64c f.K) := (HR2.out.fb.cell 0).trans (fcells_K f q c)
    have cS : w2.cell? ⟨gf, 1, none⟩ = some (i64c f.S) := (HR2.out.fb.cell 1).trans (fcells_S f q c)
    rcases HF.out with hk | hk
    · rw [hk] at cK
      have ck3 : w2.cell? ⟨g, 3, none⟩ = some (.slice pk r.yk.length ck) := by rw [HR2.out.so.blk.cell 3, ← HVK.out]; rfl
      have l2 := fact_id hR3.fb HL.out
      have mk := fun w => makeOK f.S f.D HL.out none 0 w
      obtain ⟨gd, u8⟩ := good0 (S := sK) w2.drew (x := (f.S, f.D)) ⟨HOK.out.S, HD.out⟩ rfl
      have HPL := Lib.hid (show Calls Tryz.prog 152 #[.slice pk r.yk.length ck, .agg (kcells (f.S, f.D) none 0).toArray, .func (.func 153) #[] #[]] w2.drew (PlcK w2.drew B r.vk (r.yk.map (·.1)) (f.S, f.D)) by
        have h2 := place_K w2.drew B r.vk r.yk hR3.so.k HU1.out (f.S, f.D) none 0 gd u8 HN1.out (Nat.le_trans HBW.out hR3.below.size)
        rw [HVK.out] at h2 ⊢
        exact h2)
      have HR3 := Lib.hid hR3
      have HK := Lib.hid hk
      clear gd u8 hR3 hk
      obtain ⟨nk, hnk⟩ : ∃ n, n = r.yk.length := ⟨_, rfl⟩
      rw [← hnk] at ck3 HPL
      have HNK := Lib.hid hnk
      clear hnk
      go_wp2_with fail
      go_region_law ((first
        | (go_simp; go_at_call 152; refine HPL.out.mono ?_; rintro e w3 ⟨v', zs, rfl, hr3, hz3, hg3, _, _⟩; (obtain ⟨v3, f3, hs3, hc3, _⟩ := plcS_K HR3.out.so (Below.refl _ _) hr3 hg3); (obtain ⟨q5, c5, rfl, _⟩ := hr3.told); (rw [HVK.out] at v3); (have HS3 := Lib.hid hs3); (have HC3 := Lib.hid hc3); (have HZ3 := Lib.hid hz3); clear hs3 hc3 hz3 hr3 hg3; generalize zs.length = n5 at *)))
      all_goals (
        go_wp2_with fail
        go_end0
        have hs := HS3.out
        rw [HZ3.out, HKE.out] at hs
        refine ⟨rfl, _, (by rw [on_4 s HK.out]; unfold Ste.keep; rw [← HHS.out, if_pos rfl]; exact hs), chg9_trans ((Chg.refl _ w).grown (below_grown HR3.out.below none) fun k hk => by cases hk) HC3.out⟩)
    · rw [hk] at cK
      have ck4 : w2.cell? ⟨g, 4, none⟩ = some (.slice ph r.yh.length ch) := by rw [HR2.out.so.blk.cell 4, ← HVH.out]; rfl
      have l2 := load_factB hR3.fb HL.out
      have HR3 := Lib.hid hR3
      have HK := Lib.hid hk
      have HPP := Lib.hid (fun (W : World) (hW : Below w2.heap.size w2 W) => (show Calls Tryz.prog 154 #[.slice ph r.yh.length ch, .agg (hcells (f.H, f.S, f.D) none 0).toArray, .func (.func 156) #[] #[]] W (PlcH W B r.vh (r.yh.map (·.1)) (f.H, f.S, f.D)) from by
        obtain ⟨gd, u8⟩ := good0 (S := sH) W (x := (f.H, f.S, f.D)) ⟨HOK.out.H, HOK.out.S, HD.out⟩ rfl
        have h2 := place_H W B r.vh r.yh (HR2.out.so.below hW).h HU2.out (f.H, f.S, f.D) none 0 gd u8 HN2.out (Nat.le_trans (Nat.le_trans HBW.out HR2.out.below.size) hW.size)
        rw [HVH.out] at h2 ⊢
        exact h2))
      clear hR3 hk
      obtain ⟨nh, hnh⟩ : ∃ n, n = r.yh.length := ⟨_, rfl⟩
      rw [← hnh] at ck4 HPP
      have HNH := Lib.hid hnh
      clear hnh
      go_wp2_with fail
      go_region_law ((first
        | (go_simp; go_at_call 155; refine (hintOf_any f q c _ HOK.out HD.out).mono ?_; rintro e w4 ⟨rfl, hb4⟩; (have HB4 := Lib.hid (show Below w2.heap.size w2 w4 from (Below.refl _ w2).drew.trans hb4)); clear hb4; (have v4 : w4.cell? ⟨g, 4, none⟩ = some (.slice ph nh ch) := (HB4.out.cell (p := ⟨g, 4, none⟩) (World.block_lt_of_cell? w2 _ ck4)).trans ck4))
        | (go_simp; go_at_call 154; refine (HPP.out _ HB4.out).mono ?_; rintro e w3 ⟨v', zs, rfl, hr3, hz3, hg3, _, _⟩; (obtain ⟨v3, f3, hs3, hc3, _⟩ := plcS_H (HR2.out.so.below HB4.out) (Below.refl _ _) hr3 hg3); (obtain ⟨q5, c5, rfl, _⟩ := hr3.told); (rw [HVH.out] at v3); (have HS3 := Lib.hid hs3); (have HC3 := Lib.hid hc3); (have HZ3 := Lib.hid hz3); clear hs3 hc3 hz3 hr3 hg3; generalize zs.length = n5 at *)))
      all_goals (
        go_wp2_with fail
        go_end0
        have hs := HS3.out
        rw [HZ3.out, HHE.out] at hs
        have hbb := HR2.out.below.trans (HB4.out.mono HR2.out.below.size)
        refine ⟨rfl, _, (by rw [on_5 s HK.out]; unfold Ste.hint; rw [← HHS.out, if_pos rfl]; exact hs), chg9_trans ((Chg.refl _ w).grown (below_grown hbb none) fun k hk => by cases hk) HC3.out⟩)
end
section
set_option linter.unusedSimpArgs false
set_option linter.unusedVariables false
open Go.RowKit Sha Fct
attribute [local go_sem ↓] execOp_boxFact execOp_loadFact execOp_loadId execOp_makeOB
/-- What a row's length may be. -/
structure Lens (r : Rows9) : Prop where
  b : r.yb.length ≤ 1000000000
  k : r.yk.length ≤ 1000000000
  h : r.yh.length ≤ 1000000000
  v : r.yv.length ≤ 1000000000
  d : r.yd.length ≤ 1000000000
abbrev DoP (w : World) (B g : Nat) (t : Ste) : Ending → World → Prop := StOP B g (fun _ => False) t w
theorem StOP.from {w w1 : World} {B g : Nat} {t : Ste} {e : Ending} {w' : World} (h : StOP B g (fun _ => False) t w1 e w') (hb : Below w.heap.size w w1) : DoP w B g t e w' := by
  obtain ⟨h1, r', h2, h3⟩ := h
  exact ⟨h1, r', h2, chg9_trans ((Chg.refl _ w).grown (below_grown hb none) fun k hk => by cases hk) h3⟩
set_option maxRecDepth 100000 in
set_option maxHeartbeats 4000000 in
/-- A kind that another function does. -/
theorem do_refer (w : World) (B g : Nat) (s : Ste) (r : Rows9) (f : Fac) (q : Option Addr) (c : Nat) (h : StO w B g s r) (hf : f.K = 4 ∨ f.K = 5) (hok : sF.ok f) (hd : idOk f.D) (hs : Sound s) (hl : Lens r) (hB : B ≤ w.heap.size) :
    Calls Tryz.prog 92 #[.pointer (some ⟨g, 0, none⟩), .agg (fcells f q c).toArray] w (DoP w B g (s.on f)) := by
  obtain ⟨w1, hb⟩ := fbx9 w f q c
  have bx := hb.b1
  have cK := hb.K
  have l1 := load_factB hb.k1 hok.len
  have HR := Lib.hid (refer_any w1 B g s r f q c (h.below hb.below) hf hok hd hs.blobsUp hs.keepsUp hs.hintsUp hl.b hl.k hl.h (Nat.le_trans hB hb.below.size))
  have HB := Lib.hid hb.below
  clear hb h hok hd hs hl hB
  rcases hf with hk | hk
  · rw [hk] at cK
    clear hk
    go_enter Tryz.func92, Tryz.ntmps92
    go_wp2_with fail
    refine HR.out.mono ?_
    rintro e w2 hP
    have HP := Lib.hid (hP.from HB.out)
    obtain ⟨rfl, _⟩ := hP
    go_wp2_with fail
    go_end0
    exact HP.out
  · rw [hk] at cK
    clear hk
    go_enter Tryz.func92, Tryz.ntmps92
    go_wp2_with fail
    refine HR.out.mono ?_
    rintro e w2 hP
    have HP := Lib.hid (hP.from HB.out)
    obtain ⟨rfl, _⟩ := hP
    go_wp2_with fail
    go_end0
    exact HP.out
set_option maxRecDepth 100000 in
set_option maxHeartbeats 4000000 in
theorem do_settle (w : World) (B g : Nat) (s : Ste) (r : Rows9) (f : Fac) (q : Option Addr) (c : Nat) (h : StO w B g s r) (hf : f.K = 6) (hok : sF.ok f) (hd : idOk f.D) (hs : Sound s) (hl : Lens r) :
    Calls Tryz.prog 92 #[.pointer (some ⟨g, 0, none⟩), .agg (fcells f q c).toArray] w (DoP w B g (s.on f)) := by
  obtain ⟨w1, hb⟩ := fbx9 w f q c
  have bx := hb.b1
  have cK := hb.K
  have l1 := load_factB hb.k1 hok.len
  have HR := Lib.hid (settle_any w1 B g s r f q c (h.below hb.below) hf hok hd hs.hintsUp hl.b hl.k hl.h)
  have HB := Lib.hid hb.below
  have HE := Lib.hid (on_less s (Or.inl hf))
  rw [← HE.out] at HR
  rw [hf] at cK
  clear hb h hok hd hs hl hf
  go_enter Tryz.func92, Tryz.ntmps92
  go_wp2_with fail
  refine HR.out.mono ?_
  rintro e w2 hP
  have HP := Lib.hid (hP.from HB.out)
  obtain ⟨rfl, _⟩ := hP
  go_wp2_with fail
  go_end0
  exact HP.out
set_option maxRecDepth 100000 in
set_option maxHeartbeats 4000000 in
theorem do_drop (w : World) (B g : Nat) (s : Ste) (r : Rows9) (f : Fac) (q : Option Addr) (c : Nat) (h : StO w B g s r) (hf : f.K = 10) (hok : sF.ok f) (hl : Lens r) :
    Calls Tryz.prog 92 #[.pointer (some ⟨g, 0, none⟩), .agg (fcells f q c).toArray] w (DoP w B g (s.on f)) := by
  obtain ⟨w1, hb⟩ := fbx9 w f q c
  have bx := hb.b1
  have cK := hb.K
  have l1 := load_factB hb.k1 hok.len
  have HR := Lib.hid (drop_any w1 B g s r f q c (h.below hb.below) hf hl.b hl.k hl.h)
  have HB := Lib.hid hb.below
  have HE := Lib.hid (on_less s (Or.inr hf))
  rw [← HE.out] at HR
  rw [hf] at cK
  clear hb h hok hl hf
  go_enter Tryz.func92, Tryz.ntmps92
  go_wp2_with fail
  refine HR.out.mono ?_
  rintro e w2 hP
  have HP := Lib.hid (hP.from HB.out)
  obtain ⟨rfl, _⟩ := hP
  go_wp2_with fail
  go_end0
  exact HP.out
set_option maxRecDepth 100000 in
set_option maxHeartbeats 4000000 in
theorem do_born (w : World) (B g : Nat) (s : Ste) (r : Rows9) (f : Fac) (q : Option Addr) (c : Nat) (h : StO w B g s r) (hf : f.K = 1) :
    Calls Tryz.prog 92 #[.pointer (some ⟨g, 0, none⟩), .agg (fcells f q c).toArray] w (DoP w B g (s.on f)) := by
  obtain ⟨w1, hb⟩ := fbx9 w f q c
  have bx := hb.b1
  have cK := hb.K
  have h1 := h.below hb.below
  have c0 : w1.cell? ⟨g, 0, none⟩ = some (.bool s.born) := h1.blk.cell 0
  have f0 := h1.blk.free 0
  have HE := Lib.hid (on_1 s hf)
  have HP := Lib.hid (show StO (w1.setCell ⟨g, 0, none⟩ (.bool true)) B g { s with born := true } r ∧ Chg (fun k => Own9 w1 B g k ∨ False) w1 (w1.setCell ⟨g, 0, none⟩ (.bool true)) from by
    have hg := setCell_grown w1 g 0 (.bool true)
    have hc : Chg (fun k => k = g) w1 (w1.setCell ⟨g, 0, none⟩ (.bool true)) := (Chg.refl _ w1).grown hg fun k hk _ => by cases hk; rfl
    have hn : ∀ k cs fz t, w1.heap[k]? = some (.cells cs t fz) → t ≠ 47 → ¬ k = g := by
      rintro k cs fz t hk ht rfl
      have h3 := h1.blk
      unfold Blk at h3
      rw [hk] at h3; simp at h3; exact ht h3.2.1
    refine ⟨⟨h1.blk.set 0 _, h1.lo, h1.b.chg hc fun k cs fz t hk ht => hn k cs fz t hk (by rcases ht with rfl | rfl <;> decide), h1.be, h1.k.chg hc fun k cs fz t hk ht => hn k cs fz t hk (by rcases ht with rfl | rfl <;> decide), h1.ke, h1.h.chg hc fun k cs fz t hk ht => hn k cs fz t hk (by rcases ht with rfl | rfl <;> decide), h1.he,
      h1.v.chg hc fun k cs fz t hk ht => hn k cs fz t hk (by rcases ht with rfl | rfl <;> decide), h1.ve, h1.d.chg hc fun k cs fz t hk ht => hn k cs fz t hk (by rcases ht with rfl | rfl <;> decide), h1.de⟩, hc.mono fun k _ e => Or.inl (Or.inl e)⟩)
  have HB := Lib.hid hb.below
  rw [hf] at cK
  clear hb h h1 hf
  go_enter Tryz.func92, Tryz.ntmps92
  go_wp2_with fail
  go_end0
  rw [HE.out]
  exact StOP.from ⟨rfl, r, HP.out.1, HP.out.2⟩ HB.out
end
end Go.Proofs.YtokpabkcaofahaaGreat
