/-
  The kit's LongNote.
  The law WireAgain.
-/
import Derived.Test.YteepaoklibflpaaR14
namespace Go.Proofs.Yteepaoklibflpaa
section
set_option linter.unusedSimpArgs false
set_option linter.unusedVariables false
open Go.RowKit Sha Nte
instance (x : Not) : Decidable (Few x) :=
  if h : x.X.length ≤ 4100 ∧ x.I.length ≤ 100 ∧ x.W.length ≤ 100 then isTrue ⟨h.1, h.2.1, h.2.2⟩ else isFalse (fun e => h ⟨e.X, e.I, e.W⟩)
section
attribute [local go_sem ↓] execOp_boxNote execOp_loadBytes execOp_loadIds execOp_loadWords
set_option maxRecDepth 100000 in
set_option maxHeartbeats 2000000 in
theorem longNote_any (x : Not) (h : NHd) (w : World) (hx : NGood w x h) :
    Calls Try.prog 11 #[.agg (ncells x h).toArray] w fun e w' => e = .returned (.bool (!decide (Few x))) ∧ Below w.heap.size w w' := by
  obtain ⟨g, w1, r1, hg1, hl1, K1, B1⟩ := box_note w x h
  have P := nblk K1 hx.ok.len
  have p1 := P.c45
  have p2 := P.c46
  have p3 := P.c47
  have i1 := hx.ok.Xl
  have i2 := hx.ok.Il
  have i3 := hx.ok.Wl
  have HB := Lib.hid B1
  obtain ⟨n1, hn1⟩ : ∃ n, n = x.X.length := ⟨_, rfl⟩
  obtain ⟨n2, hn2⟩ : ∃ n, n = x.I.length := ⟨_, rfl⟩
  obtain ⟨n3, hn3⟩ : ∃ n, n = x.W.length := ⟨_, rfl⟩
  rw [← hn1] at p1 i1
  rw [← hn2] at p2 i2
  rw [← hn3] at p3 i3
  have HF := Lib.hid (show (!decide (Few x)) = true ↔ 4100 < n1 ∨ 100 < n2 ∨ 100 < n3 from by
    simp only [Bool.not_eq_true', decide_eq_false_iff_not]
    constructor
    · intro hn
      by_cases h1 : 4100 < n1
      · exact Or.inl h1
      · by_cases h2 : 100 < n2
        · exact Or.inr (Or.inl h2)
        · by_cases h3 : 100 < n3
          · exact Or.inr (Or.inr h3)
          · exact absurd ⟨by omega, by omega, by omega⟩ hn
    · intro ho hf
      have := hf.X
      have := hf.I
      have := hf.W
      omega)
  generalize (!decide (Few x)) = z at *
  clear K1 B1 P hn1 hn2 hn3 hg1 hl1 hx
  by_cases h1 : 4100 < n1
  · have HZ := Lib.hid (HF.out.2 (Or.inl h1))
    have t1 : (4100 : Int) < (n1 : Int) := by omega
    clear HF
    go_enter Try.func11, Try.ntmps11
    go_wp2_with fail
    go_ret
    exact ⟨by rw [HZ.out]; rfl, HB.out⟩
  · by_cases h2 : 100 < n2
    · have HZ := Lib.hid (HF.out.2 (Or.inr (Or.inl h2)))
      have t1 : ¬ (4100 : Int) < (n1 : Int) := by omega
      have t2 : (100 : Int) < (n2 : Int) := by omega
      clear HF
      go_enter Try.func11, Try.ntmps11
      go_wp2_with fail
      go_ret
      exact ⟨by rw [HZ.out]; rfl, HB.out⟩
    · by_cases h3 : 100 < n3
      · have HZ := Lib.hid (HF.out.2 (Or.inr (Or.inr h3)))
        have t1 : ¬ (4100 : Int) < (n1 : Int) := by omega
        have t2 : ¬ (100 : Int) < (n2 : Int) := by omega
        have t3 : (100 : Int) < (n3 : Int) := by omega
        clear HF
        go_enter Try.func11, Try.ntmps11
        go_wp2_with fail
        go_ret
        exact ⟨by rw [HZ.out]; rfl, HB.out⟩
      · have HZ := Lib.hid (show z = false from by
          cases hz : z with
          | false => rfl
          | true => have := HF.out.1 hz; omega)
        have t1 : ¬ (4100 : Int) < (n1 : Int) := by omega
        have t2 : ¬ (100 : Int) < (n2 : Int) := by omega
        have t3 : ¬ (100 : Int) < (n3 : Int) := by omega
        clear HF
        go_enter Try.func11, Try.ntmps11
        go_wp2_with fail
        go_ret
        exact ⟨by rw [HZ.out]; rfl, HB.out⟩
end
end
section
set_option linter.unusedSimpArgs false
set_option linter.unusedVariables false
open Go.RowKit Sha Nte
/-- What the kit's SameNote answers. -/
def SameNotes : Prop := ∀ (x y : Not) (h k : NHd) (w : World), NGood w x h → NGood w y k →
    Calls Try.prog 13 #[.agg (ncells x h).toArray, .agg (ncells y k).toArray] w fun e w' => e = .returned (.bool (decide (x = y))) ∧ Below w.heap.size w w'
theorem built_none : Try.prog.built 32 [] = some (ncells none_ NHd.none_).toArray := by unfold ncells none_; kernel_rfl
theorem put_len {x : Not} {b : List Int} (h : put x = (b, 0)) : 9 ≤ b.length ∧ b.length ≤ 4008 := by
  obtain ⟨hc, rfl⟩ := put_zero h
  rw [Frm.fr_length]
  have := inner_pos x
  have := (check_zero hc).2
  omega
theorem take_last (bs : List Int) (n : Nat) (hn : bs.length = n) (h0 : 0 < n) : ∃ z, bs = bs.take (n - 1) ++ [z] := by
  subst hn
  have hne : bs ≠ [] := by intro e; rw [e] at h0; simp at h0
  exact ⟨bs.getLast hne, by rw [← List.dropLast_eq_take]; exact (List.dropLast_concat_getLast hne).symm⟩
theorem own_rown {w : World} {B n : Nat} {v : Value} {xs : List Int} (h : w.ownsRow B 5 1 v n (xs.map v8)) (hb : ∀ m ∈ xs, 0 ≤ m ∧ m ≤ 255) : ∃ p cap, v = .slice p n cap ∧ GoodS w (xs, p, cap) ∧ n ≤ cap ∧ xs.length = n := by
  obtain ⟨p, cap, hv, hl, hm, hA, hx, hn⟩ := own_at h
  have hx' : xs.length = n := by simpa using hx
  exact ⟨p, cap, hv, ⟨hb, hA, by rw [hx']; exact hl, by unfold maxLen at hm; simp only; omega, hn⟩, hl, hx'⟩
theorem front_at {w : World} {q : Option Addr} {xs : List Int} (h : At w q (xs.map v8)) (k : Nat) : At w q ((xs.take k).map v8) := by
  have e : xs.map v8 = (xs.take k).map v8 ++ (xs.drop k).map v8 := by rw [← List.map_append, List.take_append_drop]
  rw [e] at h
  exact h.front
section
attribute [local go_sem ↓] execOp_allocNote execOp_storeNote execOp_makeNote execOp_loadNote
set_option maxRecDepth 100000 in
set_option maxHeartbeats 4000000 in
theorem wagain_any (Wr : WireOK) (F : FrameOK) (SN : SameNotes) (bs : List Int) (n : Nat) (p : Option Addr) (c : Nat) (m : Int) (w : World) (hl : bs.length = n) (hA : At w p (bs.map v8)) (hc : n ≤ c) (hm : c ≤ maxLen) (hp : p = none → c = 0) (hb : ∀ m ∈ bs, 0 ≤ m ∧ m ≤ 255) (hx : 0 ≤ m ∧ m ≤ 255) :
    Calls Try.prog 5 #[.slice p n c, .int .u8 m] w fun e w' => e = .returned (.bool true) ∧ Below w.heap.size w w' := by
  have HA := Lib.hid hA
  have HL := Lib.hid hl
  have HB := Lib.hid hb
  have HN := Lib.hid hp
  have hm' : c ≤ 9223372036854775807 := by unfold maxLen at hm; omega
  have HG := Lib.hid (fun (W : World) (hbw : Below w.heap.size w W) => (show GoodS W (bs, p, c) from ⟨hb, hA.below hbw, by rw [hl]; exact hc, hm', hp⟩))
  clear hA hl hb hp hm
  go_enter Try.func5, Try.ntmps5
  go_wp2_with fail
  refine (wawake_any Wr F w).mono ?_
  rintro e1 w1 ⟨rfl, hb1⟩
  have B1 := Lib.hid hb1
  clear hb1
  by_cases hbig : 4100 < n
  · have t1 : (4100 : Int) < (n : Int) := by omega
    go_wp2_with fail
    go_ret
    exact ⟨rfl, B1.out⟩
  have t1 : ¬ (4100 : Int) < (n : Int) := by omega
  go_wp2_with fail
  refine (Wr.get bs n p c w1 HL.out (HG.out w1 B1.out) (by omega)).mono ?_
  rcases get_cases bs with ⟨x, hxo, hpx, hgx⟩ | ⟨hno, hgx⟩
  · rw [hgx]
    rintro e2 w2 ⟨hh, rfl, hg2, _, hb2⟩
    dsimp only at hg2 ⊢
    have PX := Lib.hid hpx
    have XO := Lib.hid hxo
    have hlen := put_len hpx
    rw [HL.out] at hlen
    have hz := (put_zero hpx).1
    have CZ := Lib.hid hz
    have hfew := Lib.hid (few_can hz)
    have al := alloc_note w2
    have st := store_note1 w2 (x := x) (h := hh) hxo.len
    have hb3 := (Below.refl w2.heap.size w2).alloc (Nat.le_refl _) (Obj.cells (ncells x hh).toArray 32)
    have K3 := Lib.hid (show Blk (w2.alloc (Obj.cells (ncells x hh).toArray 32)) w2.heap.size (ncells x hh) 32 from Blk.new w2 (ncells x hh).toArray 32)
    have G3 := Lib.hid (hg2.below hb3)
    have B2 := B1.out.trans (hb2.mono B1.out.size)
    have B3 := Lib.hid (B2.trans (hb3.mono B2.size))
    have l3 := load_note (x := x) (h := hh) (o := 0) hxo.len K3.out.range
    clear hgx hxo hpx hz hg2 hb2 hb3 B2
    generalize hw3 : w2.alloc (Obj.cells (ncells x hh).toArray 32) = w3 at *
    generalize hgg : w2.heap.size = g3 at *
    go_wp2_with fail
    clear al st
    refine (Wr.put x hh w3 G3.out hfew.out).mono ?_
    rw [PX.out]
    rintro e4 w4 ⟨v4, rfl, ho4, hb4⟩
    obtain ⟨q4, c4, rfl, hgs4, hc4, hx4⟩ := own_rown ho4.row HB.out
    dsimp only at hgs4 hc4 hx4 ⊢
    rw [HL.out] at hc4 hx4 ⊢
    have S4 := Lib.hid hgs4
    have B4 := Lib.hid (B3.out.trans (hb4.mono B3.out.size))
    have G4 := Lib.hid (G3.out.below hb4)
    have K4 := Lib.hid (K3.out.below hb4 K3.out.lt)
    have l4 := load_note (x := x) (h := hh) (o := 0) XO.out.len K4.out.range
    clear l3 ho4 hb4 hgs4 hx4 G3 K3
    have hn0 : ((n : Int) == 0) = false := by rw [beq_eq_false_iff_ne]; omega
    go_wp2_with fail
    refine (Wr.check x hh w4 G4.out hfew.out).mono ?_
    rw [CZ.out]
    rintro e5 w5 ⟨rfl, hb5⟩
    have B5 := Lib.hid (B4.out.trans (hb5.mono B4.out.size))
    have S5 := Lib.hid (S4.out.below hb5)
    clear hb5 l4 K4 G4 S4
    go_wp2_with fail
    refine (same_true bs n n q4 p c4 c w5 HL.out HL.out S5.out.at_ (HG.out w5 B5.out).at_ HB.out).mono ?_
    rintro e6 w6 ⟨rfl, rfl⟩
    have hcut : ((n : Int) - 1).toNat = n - 1 := by omega
    clear S5
    obtain ⟨z, hz⟩ := take_last bs n HL.out (by omega)
    have GL := Lib.hid (show get (bs.take (n - 1)) = (none_, 10) from get_less XO.out (by rw [← hz]; exact PX.out))
    have GM := Lib.hid (show get (bs ++ [m]) = (none_, 10) from get_more XO.out PX.out)
    clear hz
    go_wp2_with fail
    refine (Wr.get (bs.take (n - 1)) (n - 1) p c w5 (by rw [List.length_take, HL.out]; omega) ⟨fun m hm => HB.out m (List.mem_of_mem_take hm), front_at (HG.out w5 B5.out).at_ (n - 1), by simp only [List.length_take]; omega, hm', HN.out⟩ (by omega)).mono ?_
    rw [GL.out]
    rintro e7 w7 ⟨h7, rfl, _, _, hb7⟩
    dsimp only
    have al := alloc_note w7
    have st := store_note1 w7 (x := none_) (h := h7) nz_len
    have hb8 := hb7.trans (((Below.refl w7.heap.size w7).alloc (Nat.le_refl _) (Obj.cells (ncells none_ h7).toArray 32)).mono hb7.size)
    have B8 := Lib.hid (B5.out.trans (hb8.mono B5.out.size))
    clear hb7 hb8
    generalize hw8 : w7.alloc (Obj.cells (ncells none_ h7).toArray 32) = w8 at *
    go_wp2_with fail
    clear al st hw8
    refine (copy_any bs n p c w8 HL.out (HG.out w8 B8.out).at_ hc HN.out (by omega)).mono ?_
    rintro e9 w9 ⟨v9, rfl, ho9, hb9⟩
    have B9 := Lib.hid (B8.out.trans (hb9.mono B8.out.size))
    have O9 := Lib.hid ho9
    have S9 := Lib.hid hb9.size
    clear hb9 ho9
    go_wp2_with (at_builtin; refine wpList_app rfl (.tmp 70) (.tmp 72) 28 rfl w8.heap.size 5 Try.underlying28 kbyte_info rfl v9 n _ rfl (O9.out.alloc _) _ 1 1 [v8 m] rfl ?_ rfl (fun h => by cases h) (by omega) (by simp [Value.oneCell']) (by omega) (by unfold maxLen; omega) (by have := S9.out; simp; omega) ?_; exact at_one _ _ _; intro v10 w10 hown10 _ hb10 _ _; have H10 := Lib.hid hown10; have B10 := Lib.hid ((B9.out.alloc B9.out.size _).trans (hb10.mono B8.out.size)); clear hown10 hb10)
    have HBX := Lib.hid (show ∀ k ∈ bs ++ [m], 0 ≤ k ∧ k ≤ 255 from fun k hk => by
      rcases List.mem_append.1 hk with h | h
      · exact HB.out k h
      · rw [List.mem_singleton.1 h]; exact hx)
    obtain ⟨q10, c10, rfl, hgs10, hc10, hx10⟩ := own_rown (xs := bs ++ [m]) (by have := H10.out; rw [List.map_append]; exact this) HBX.out
    refine (Wr.get (bs ++ [m]) (n + 1) q10 c10 w10 hx10 hgs10 (by omega)).mono ?_
    rw [GM.out]
    rintro e11 w11 ⟨h11, rfl, _, _, hb11⟩
    dsimp only
    have al := alloc_note w11
    have st := store_note1 w11 (x := none_) (h := h11) nz_len
    have hb12 := hb11.trans (((Below.refl w11.heap.size w11).alloc (Nat.le_refl _) (Obj.cells (ncells none_ h11).toArray 32)).mono hb11.size)
    have B12 := Lib.hid (B10.out.trans (hb12.mono B10.out.size))
    clear hb11 hb12
    generalize hw12 : w11.alloc (Obj.cells (ncells none_ h11).toArray 32) = w12 at *
    go_wp2_with fail
    go_ret
    exact ⟨rfl, B12.out⟩
  · rw [hgx]
    rintro e2 w2 ⟨hh, rfl, hg2, _, hb2⟩
    dsimp only at hg2 ⊢
    have al := alloc_note w2
    have st := store_note1 w2 (x := none_) (h := hh) nz_len
    have mk := fun w => run_makeOp w built_none
    have hb3 := (Below.refl w2.heap.size w2).alloc (Nat.le_refl _) (Obj.cells (ncells none_ hh).toArray 32)
    have K3 := Lib.hid (show Blk (w2.alloc (Obj.cells (ncells none_ hh).toArray 32)) w2.heap.size (ncells none_ hh) 32 from Blk.new w2 (ncells none_ hh).toArray 32)
    have G3 := Lib.hid (hg2.below hb3)
    have B2 := B1.out.trans (hb2.mono B1.out.size)
    have B3 := Lib.hid (B2.trans (hb3.mono B2.size))
    have l3 := load_note (x := none_) (h := hh) (o := 0) nz_len K3.out.range
    clear hgx hg2 hb2 hb3 B2 hno
    generalize hw3 : w2.alloc (Obj.cells (ncells none_ hh).toArray 32) = w3 at *
    generalize hgg : w2.heap.size = g3 at *
    go_wp2_with fail
    refine (SN none_ none_ hh NHd.none_ w3 G3.out (ngood_none w3)).mono ?_
    rw [decide_eq_true rfl]
    rintro e4 w4 ⟨rfl, hb4⟩
    go_wp2_with fail
    go_ret
    exact ⟨rfl, B3.out.trans (hb4.mono B3.out.size)⟩
end
end
end Go.Proofs.Yteepaoklibflpaa
