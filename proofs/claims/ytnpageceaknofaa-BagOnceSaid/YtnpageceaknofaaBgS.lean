/-
  The law BagOnce, over what bags are asked to do.
-/
import Derived.Test.YtnpageceaknofaaBgT
import Derived.Test.YtnpageceaknofaaBgC
import Derived.Test.YtnpageceaknofaaBgB
import Derived.Test.YtnpageceaknofaaPick
import Derived.Test.YtnpageceaknofaaApp
import Derived.Deep.RegionLaw
namespace Go.Proofs.Ytnpageceaknofaa
set_option linter.unusedSimpArgs false
set_option linter.unusedVariables false
open Go.RowKit Sha Bag
theorem text_info : (Try.prog.info? 9).map (fun i => (i.zero, i.size, i.bytes)) = some (some (.string .empty), 1, 16) := by kernel_rfl
theorem text1 (l : List ByteArray) : ∀ u ∈ l.map Value.string, u.oneCell' = true := by simp [Value.oneCell']
/-- Texts of the call's own. -/
abbrev RowT (w : World) (B : Nat) (v : Value) (l : List ByteArray) : Prop := w.ownsRow B 9 1 v l.length (l.map Value.string)
theorem RowT.good {w : World} {B : Nat} {v : Value} {l : List ByteArray} (h : RowT w B v l) : ∃ p cap, v = .slice p l.length cap ∧ GoodT w l p cap ∧ cap ≤ maxLen := by
  obtain ⟨p, cap, hv, hl, hm, hA, hx, hn⟩ := own_at h
  exact ⟨p, cap, hv, ⟨hA, hl, by unfold maxLen at hm; omega, hn⟩, hm⟩
theorem row_touch {fp : List Nat} {w w' : World} {B n : Nat} {e : TypeId} {v : Value} {xs : List Value} (h : w.ownsRow B e 1 v n xs) (ht : Touch fp w w') (hg : ∀ g, v.ownBlock = some g → g ∉ fp) : w'.ownsRow B e 1 v n xs := by
  refine ⟨h.1, ?_⟩
  rcases h.2 with h' | ⟨g, cap, cur, hv, hgB, hh, h4⟩
  · exact .inl h'
  · have hb : v.ownBlock = some g := by rw [hv]; rfl
    exact .inr ⟨g, cap, cur, hv, hgB, by rw [ht.block g (h.lt g hb).2 (hg g hb)]; exact hh, h4⟩
theorem row_goodT {w : World} {B : Nat} {p : Option Addr} {n cap : Nat} {l : List ByteArray} (h : w.ownsRow B 9 1 (.slice p n cap) n (l.map Value.string)) : GoodT w l p cap := by
  obtain ⟨p', cap', hv, hl, hm, hA, hx, hn⟩ := own_at h
  cases hv
  rw [List.length_map] at hx
  exact ⟨hA, by rw [hx]; exact hl, by unfold maxLen at hm; omega, hn⟩
/-- A bag, and texts of the call's own that are not the bag's. -/
structure Kept (R : BagRep ByteArray) (w0 w : World) (b : Nat) (fp : List Nat) (s : Nat × List ByteArray) (B : Nat) (v : Value) (n : Nat) (xs : List Value) : Prop where
  solo : Solo R w0 w b fp s
  row : w.ownsRow B 9 1 v n xs
  out : ∀ g, v.ownBlock = some g → g ∉ fp
  low : B ≤ w.heap.size
theorem Kept.step {R : BagRep ByteArray} {w0 w w' : World} {b : Nat} {fp fp' : List Nat} {s s' : Nat × List ByteArray} {B n : Nat} {v : Value} {xs : List Value} (h : Kept R w0 w b fp s B v n xs) (hr : R w' b fp' s') (ht : Touch fp w w') (hf : From fp fp' w) : Kept R w0 w' b fp' s' B v n xs :=
  ⟨h.solo.step hr ht hf, row_touch h.row ht h.out, fun g hg e => by rcases hf g e with h' | h'; exact h.out g hg h'; have := (h.row.lt g hg).2; omega, Nat.le_trans h.low ht.size⟩
theorem Kept.on {R : BagRep ByteArray} (K : Held R) {w0 w w' : World} {b : Nat} {fp : List Nat} {s : Nat × List ByteArray} {B n : Nat} {v : Value} {xs : List Value} (h : Kept R w0 w b fp s B v n xs) (hb : Below w.heap.size w w') : Kept R w0 w' b fp s B v n xs :=
  ⟨h.solo.on K hb, row_touch (fp := []) h.row (Touch.of_below hb) (fun _ _ => by simp), h.out, Nat.le_trans h.low hb.size⟩
theorem Solo.grown {S : Type} {R : ObjRep S} (K : Held R) {w0 w w' : World} {b : Nat} {fp : List Nat} {s : S} {v : Value} {B : Nat} (h : Solo R w0 w b fp s) (hg : w.grownBy w' v.ownBlock) (hb : Below B w w') (hB : w0.heap.size ≤ B) (ho : ∀ g, v.ownBlock = some g → g ∉ fp) : Solo R w0 w' b fp s :=
  ⟨K.keep h.one fun k hk => hg.block k (K.low h.one k hk) fun e => ho k e.symm hk, h.new, h.below.trans (hb.mono hB)⟩
theorem GoodT.blocks {w w' : World} {xs : List ByteArray} {p : Option Addr} {cap : Nat} (h : GoodT w xs p cap) (hk : ∀ a, p = some a → w'.heap[a.block]? = w.heap[a.block]?) : GoodT w' xs p cap := ⟨h.at_.blocks hk, h.le, h.max, h.nil⟩
section
variable {P : Program} {ops : Array Oper} {rest : List Oper} {o : Oper} {a : Act} {w : World} {Q : Exit → Act → World → Prop}
/-- 'append(v, x...)' behind a guard that holds: v the call's own. -/
theorem wpList_app_want (hw : Region.wanted o (yielded ops a.tmps) = true) (s x : Operand) (t : TypeId) (ho : o.op = .call { callee := .builtin .append, args := #[s, x], argTypes := #[t, t] })
    (B : Nat) (e : TypeId) {z : Value} {by_ : Nat} (ht : P.underlying t = some (.slice e)) (hi : (P.info? e).map (fun i => (i.zero, i.size, i.bytes)) = some (some z, 1, by_)) (hz : z.cells.size = 1)
    (v : Value) (n : Nat) (xs : List Value) (hs : a.eval s = v) (hown : w.ownsRow B e 1 v n xs)
    (ad : Addr) (m c : Nat) (news : List Value) (hx : a.eval x = .slice (some ad) m c) (hA : At w (some ad) news) (hl : news.length = m) (h1 : ∀ u ∈ news, u.oneCell' = true)
    (hbytes : (n + m) * by_ ≤ 140737488355328) (hmax : n + m ≤ maxLen) (hB : B ≤ w.heap.size)
    (h : ∀ v' w', w'.ownsRow B e 1 v' (n + m) (xs ++ news) → w.grownBy w' v.ownBlock → RowKit.Below B w w' → wpList P ops Q rest (a.put o.dst v') w') : wpList P ops Q (o :: rest) a w := by
  obtain ⟨i, hi, hz0, hz1, hz2⟩ := info_parts hi
  have hblock : ∀ k, v.ownBlock = some k → B ≤ k := fun k hk => (hown.lt k hk).1
  refine BigFrame.wpList_want hw fun K hK => ?_
  refine wp_append_own w s x t ho B e i z 1 by_ ht hi hz0 hz1 hz2 hz (by decide) v n xs hs hown ad m c news hx (by omega) ?_ h1 hmax hbytes hB ?_
  · intro j u hj
    rcases hA with hA | ⟨b, off, hA, hc⟩
    · subst hA; simp at hj
    · cases hA; rw [Addr.add_mid]; exact hc j u hj
  · intro v' w' h1 h2 h3
    exact hK _ _ (h v' w' h1 h2 ((RowKit.Below.refl B w).grown h2 hB hblock))
end
set_option maxRecDepth 100000 in
set_option maxHeartbeats 4000000 in
theorem once_any {R : BagRep ByteArray} {R0 : BagRep Int} (F0 : NumBagOK R0) (F : TextBagOK R) (l : List ByteArray) (n : Nat) (p : Option Addr) (cap : Nat) (x : Int) (s : ByteArray) (w : World)
    (hn : l.length = n) (hl : GoodT w l p cap) (hx : -9223372036854775808 ≤ x ∧ x ≤ 9223372036854775807) :
    Calls Try.prog 7 #[.slice p n cap, .int .i64 x, .string s] w fun e w' => e = .returned (.bool true) ∧ Below w.heap.size w w' := by
  have K := Lib.hid F.ok.held
  have GL := Lib.hid hl
  have HN := Lib.hid hn
  have HX := Lib.hid hx
  have hc1 := hl.le
  have hc2 := hl.max
  rw [hn] at hc1
  clear hl hn hx
  go_enter Try.func7, Try.ntmps7
  go_wp2_with fail
  refine (awake_any F0 w).mono ?_
  rintro e w1 ⟨rfl, hb1⟩
  have B1 := Lib.hid hb1
  clear hb1
  by_cases h0 : n = 0
  · subst h0
    go_wp2_with fail
    go_ret
    exact ⟨rfl, B1.out⟩
  have q0 : ((n : Int) == 0) = false := by rw [beq_eq_false_iff_ne]; omega
  by_cases hbig : 200 < n
  · have q1 : decide (200 < (n : Int)) = true := decide_eq_true (by omega)
    go_wp2_with fail
    go_ret
    exact ⟨rfl, B1.out⟩
  have q1 : decide (200 < (n : Int)) = false := decide_eq_false (by omega)
  by_cases h40 : 40 < s.size
  · have q2 : decide (40 < (s.size : Int)) = true := decide_eq_true (by omega)
    go_wp2_with fail
    go_ret
    exact ⟨rfl, B1.out⟩
  have q2 : decide (40 < (s.size : Int)) = false := decide_eq_false (by omega)
  go_wp2_with fail
  refine (filled_any F l n p cap w1 HN.out (GL.out.below B1.out) (by omega)).mono ?_
  rintro e w2 ⟨b, fp, rfl, hs⟩
  have B2 := Lib.hid (B1.out.trans (hs.below.mono B1.out.size))
  have S2 := Lib.hid (show Solo R w w2 b fp (n, l) from ⟨hs.one, fun j hj => Nat.le_trans B1.out.size (hs.new j hj), B2.out⟩)
  clear hs B1 B2
  go_wp2_with fail
  refine (pick_any x n w2 (by omega) (by omega) HX.out).mono ?_
  rintro e w3 ⟨rfl, rfl⟩
  obtain ⟨hp1, hp2⟩ := pickOf_bd x n (by omega)
  obtain ⟨k, hk⟩ : ∃ k : Nat, pickOf x n = k := ⟨(pickOf x n).toNat, by omega⟩
  rw [hk] at hp1 hp2 ⊢
  have hkl : k < l.length := by rw [HN.out]; omega
  have hkn : k < n := by omega
  clear hk HX
  have HPF := Lib.hid (show Calls Try.prog 28 #[optr b, .string s] w2 (ODone R b fp (n, l) (v64 8) w2) from by
    have h1 := F.ok.put b fp n l s w2 S2.out.one trivial
    have h2 := put_full (l := l) (x := s) (m := n) (by rw [HN.out]; omega)
    rwa [h2.1, h2.2] at h1)
  go_wp2_with fail
  refine HPF.out.mono ?_
  rintro e w4 ⟨rfl, fp4, hr, ht, hf⟩
  have S4 := Lib.hid (S2.out.step hr ht hf)
  clear hr ht hf S2 HPF
  have HTK := Lib.hid (show Calls Try.prog 25 #[optr b, .int .i64 (k : Int)] w4 (ODone R b fp4 (n, l.take k ++ l.drop (k + 1)) (.tuple #[.string l[k], v64 0]) w4) from by
    have h1 := F.ok.take b fp4 n l k w4 S4.out.one (by omega)
    obtain ⟨ha, hb, hc⟩ := at_in (z := ByteArray.empty) hkl
    have h2 : atV textK.zero l k = l[k] := hb
    rw [ha, h2, hc] at h1
    exact h1)
  have HCT := Lib.hid (fun W (hb : Below w.heap.size w W) => show ∃ g off, p = some ⟨g, off, none⟩ ∧ W.cell? ⟨g, off + k, none⟩ = some (.string l[k]) from by
    obtain ⟨g, off, hp, hc⟩ := (GL.out.below hb).at_.addr (by rw [List.length_map]; omega)
    exact ⟨g, off, hp, hc k _ (by rw [List.getElem?_map, List.getElem?_eq_getElem hkl]; rfl)⟩)
  obtain ⟨y, hy⟩ : ∃ y, y = l[k] := ⟨_, rfl⟩
  rw [← hy] at HTK HCT
  clear hy
  go_wp2_with fail
  refine HTK.out.mono ?_
  rintro e w5 ⟨rfl, fp5, hr, ht, hf⟩
  have S5 := Lib.hid (S4.out.step hr ht hf)
  clear hr ht hf S4 HTK
  obtain ⟨g, off, rfl, c5⟩ := HCT.out w5 S5.out.below
  clear c5
  have hA : At w5 (some ⟨g, off, none⟩) (l.map Value.string) := (GL.out.below S5.out.below).at_
  have HO := Lib.hid (show (w5.alloc (Obj.cells #[] 9)).drew.ownsRow w5.heap.size 9 1 (.slice (some ⟨w5.heap.size, 0, none⟩) 0 0) 0 [] from (World.ownsRow_made (base := w5.heap.size) (size := 1) (e := 9) w5 #[] 0 (Nat.le_refl _) (by decide) rfl))
  have HBA := Lib.hid (show Below w5.heap.size w5 (w5.alloc (Obj.cells #[] 9)).drew from ((Below.refl w5.heap.size w5).alloc (Nat.le_refl _) (Obj.cells #[] 9)).drew)
  have HA1 := Lib.hid (show At w5 (some ⟨g, off, none⟩) ((l.take k).map Value.string) from at_fore (ds := (l.drop k).map Value.string) (by rw [← List.map_append, List.take_append_drop]; exact hA))
  have HA2 := Lib.hid (show At w5 (some ⟨g, off + (k + 1), none⟩) ((l.drop (k + 1)).map Value.string) from by have h1 := at_aft (cs := (l.take (k + 1)).map Value.string) (ds := (l.drop (k + 1)).map Value.string) (w := w5) (g := g) (off := off) (by rw [← List.map_append, List.take_append_drop]; exact hA); rwa [List.length_map, List.length_take_of_le (by omega)] at h1)
  have i1 : IntKind.i64.wrap ((k : Int) + 1) = (k : Int) + 1 := IntWalk.i64_in _ (by omega)
  obtain ⟨q2, hq2⟩ : ∃ q2, (if cap = k + 1 then some (⟨g, off, none⟩ : Addr) else some ⟨g, off + (k + 1), none⟩) = q2 := ⟨_, rfl⟩
  have HQ := Lib.hid (show At w5 q2 ((l.drop (k + 1)).map Value.string) from by
    rw [← hq2]
    split
    · left; rw [List.drop_eq_nil_iff.2 (by rw [HN.out]; omega)]; rfl
    · exact HA2.out)
  have HQN := Lib.hid (show q2 = none → cap - (k + 1) = 0 from fun h => by rw [← hq2] at h; split at h <;> cases h)
  have j1 : (0 : Int) ≤ (k : Int) + 1 := by omega
  have j2 : (k : Int) + 1 ≤ (n : Int) := by omega
  have j3 : (k : Int) ≤ (cap : Int) := by omega
  have HL1 := Lib.hid (show ((l.take k).map Value.string).length = k by rw [List.length_map, List.length_take_of_le (by omega)])
  have HL2 := Lib.hid (show ((l.drop (k + 1)).map Value.string).length = n - (k + 1) by rw [List.length_map, List.length_drop, HN.out])
  clear hA hkl
  go_wp2_with fail
  go_region_law (first | (refine step_app (by rfl) (.tmp 47) (.tmp 50) 52 (by rfl) w5.heap.size 9 Try.underlying52 text_info rfl _ 0 [] (by rfl) HO.out (some ⟨g, off, none⟩) k cap ((l.take k).map Value.string) (by rfl) (HA1.out.below HBA.out) HL1.out (fun h => by cases h) (by omega) (text1 _) (by omega) (by unfold maxLen; omega) (by simp) ?_; intro v6 w6 hown6 hg6 hb6 hs6; simp only [Nat.zero_add, List.nil_append] at hown6; have B6 := Lib.hid (HBA.out.trans hb6); have O6 := Lib.hid hown6; clear hown6 hg6 hb6) | (refine step_app (by rfl) (.tmp 51) (.tmp 55) 52 (by rfl) w5.heap.size 9 Try.underlying52 text_info rfl v6 k _ (by rfl) O6.out q2 (n - (k + 1)) (cap - (k + 1)) ((l.drop (k + 1)).map Value.string) (by rfl) (HQ.out.below B6.out) HL2.out HQN.out (by omega) (text1 _) (by omega) (by unfold maxLen; omega) (by have := B6.out.size; omega) ?_; intro v7 w7 hown7 hg7 hb7 hs7; have B7 := Lib.hid (B6.out.trans hb7); have O7 := Lib.hid hown7; clear hown7 hg7 hb7))
  have hl2l : (l.take k ++ l.drop (k + 1)).length = n - 1 := by rw [List.length_append, List.length_take_of_le (by rw [HN.out]; omega), List.length_drop, HN.out]; omega
  obtain ⟨l2, hl2⟩ : ∃ l2, l2 = l.take k ++ l.drop (k + 1) := ⟨_, rfl⟩
  obtain ⟨m, hm⟩ : ∃ m, m = n - 1 := ⟨_, rfl⟩
  have hmn : m + 1 = n := by omega
  have hout : ∀ g, v7.ownBlock = some g → g ∉ fp5 := fun g hg e => by
    have h1 := (O7.out.lt g hg).1
    have h2 := K.out.low S5.out.one g e
    omega
  have hrow : w7.ownsRow w5.heap.size 9 1 v7 m (l2.map Value.string) := by
    have h1 := O7.out
    rwa [← List.map_append, ← hl2, show k + (n - (k + 1)) = m by omega] at h1
  rw [← hl2, ← hm] at hl2l
  rw [← hl2] at S5
  obtain ⟨p7, c7, rfl, hc7, hm7, _, _, _⟩ := own_at hrow
  have K7 := Lib.hid (show Kept R w w7 b fp5 (n, l2) w5.heap.size (.slice p7 m c7) m (l2.map Value.string) from ⟨S5.out.on K.out B7.out, hrow, hout, B7.out.size⟩)
  have HB5 := Lib.hid S5.out.below.size
  have HL2 := Lib.hid hl2l
  obtain ⟨B, hB⟩ : ∃ B, B = w5.heap.size := ⟨_, rfl⟩
  rw [← hB] at K7 HB5
  clear O7 B7 hrow hout hl2 hm S5 HO HBA HA1 HA2 HQ HQN HL1 hq2 hl2l B6 O6 hB i1 j1 j2 j3
  obtain ⟨g', off', hgo, c7'⟩ := HCT.out w7 K7.out.solo.below
  cases hgo
  have HAL := Lib.hid (show Calls Try.prog 24 #[optr b] w7 (fun e w' => ∃ q8 c8 fp', e = .returned (.slice q8 m c8) ∧ GoodT w' l2 q8 c8 ∧ Kept R w w' b fp' (n, l2) B (.slice p7 m c7) m (l2.map Value.string)) from (F.more.all b fp5 n l2 w7 K7.out.solo.one).mono (by
    rintro e w' ⟨v, fp', rfl, ⟨q8, c8, rfl, hg, _⟩, hr, ht, hf, _⟩
    exact ⟨q8, c8, fp', by rw [HL2.out], hg, K7.out.step hr ht hf⟩))
  go_wp2_with fail
  refine HAL.out.mono ?_
  rintro e w8 ⟨q8, c8, fp8, rfl, hg, hk⟩
  have G8 := Lib.hid hg
  have K8 := Lib.hid hk
  clear hg hk HAL K7 c7'
  have HST := Lib.hid (show Calls Try.prog 23 #[.slice q8 m c8, .slice p7 m c7] w8 (SameTDone true w8) from by
    have h1 := sameT_any l2 l2 m m q8 p7 c8 c7 w8 HL2.out HL2.out G8.out (row_goodT K8.out.row)
    rwa [show decide (l2 = l2) = true from decide_eq_true rfl] at h1)
  go_wp2_with fail
  refine HST.out.mono ?_
  rintro e w9 ⟨rfl, j, hw9⟩
  have K9 := Lib.hid (show Kept R w w9 b fp8 (n, l2) B (.slice p7 m c7) m (l2.map Value.string) by rw [hw9]; exact K8.out.on K.out (below_drewN (Below.refl _ _) j))
  clear hw9 K8 HST G8
  have HPR := Lib.hid (show Calls Try.prog 28 #[optr b, .string s] w9 (ODone R b fp8 (n, l2 ++ [s]) (v64 0) w9) from by
    have h1 := F.ok.put b fp8 n l2 s w9 K9.out.solo.one trivial
    have h2 := put_room (l := l2) (x := s) (m := n) (by rw [HL2.out]; omega)
    rwa [h2.1, h2.2] at h1)
  go_wp2_with fail
  refine HPR.out.mono ?_
  rintro e wa ⟨rfl, fpa, hr, ht, hf⟩
  have KA := Lib.hid (K9.out.step hr ht hf)
  clear hr ht hf K9 HPR
  have HL3 := Lib.hid (show (l2 ++ [s]).length = n by rw [List.length_append, HL2.out]; exact hmn)
  obtain ⟨l3, hl3⟩ : ∃ l3, l3 = l2 ++ [s] := ⟨_, rfl⟩
  rw [← hl3] at KA HL3
  have HM3 := Lib.hid (show l2.map Value.string ++ [.string s] = l3.map Value.string by rw [hl3, List.map_append]; rfl)
  clear hl3
  have HAL := Lib.hid (show Calls Try.prog 24 #[optr b] wa (fun e w' => ∃ q8 c8 fp', e = .returned (.slice q8 n c8) ∧ GoodT w' l3 q8 c8 ∧ Kept R w w' b fp' (n, l3) B (.slice p7 m c7) m (l2.map Value.string) ∧ (∀ a, q8 = some a → ∀ g, (Value.slice p7 m c7).ownBlock = some g → a.block ≠ g) ∧ ∀ a, q8 = some a → a.block < w'.heap.size) from (F.more.all b fpa n l3 wa KA.out.solo.one).mono (by
    rintro e w' ⟨v, fp', rfl, ⟨q8, c8, rfl, hg, hb8⟩, hr, ht, hf, _⟩
    refine ⟨q8, c8, fp', by rw [HL3.out], hg, KA.out.step hr ht hf, fun a ha g hgo e => ?_, fun a ha => ?_⟩
    · have h1 := hb8 a ha
      have h2 := (KA.out.row.lt g hgo).2
      omega
    · obtain ⟨b', off', hb', hc'⟩ := hg.at_.addr (by rw [List.length_map, HL3.out]; omega)
      rw [hb'] at ha
      cases ha
      exact World.block_lt_of_cell? w' _ (hc' 0 _ (by rw [List.getElem?_map, List.getElem?_eq_getElem (by rw [HL3.out]; omega)]; rfl))))
  go_wp2_with fail
  refine HAL.out.mono ?_
  rintro e wb ⟨qb, cb, fpb, rfl, hg, hk, hap, hlt⟩
  have GB := Lib.hid hg
  have KB := Lib.hid hk
  have HAP := Lib.hid hap
  have HLT := Lib.hid hlt
  clear hg hk HAL KA hap hlt
  have hba := (Below.refl wb.heap.size wb).alloc (Nat.le_refl _) (Obj.cells #[Value.string s] 9)
  have KC := Lib.hid (KB.out.on K.out hba)
  have GC := Lib.hid (GB.out.below hba)
  have HON := Lib.hid (at_one wb (.string s) 9)
  have HSZ := Lib.hid (World.size_alloc wb (.cells #[Value.string s] 9))
  have HBB := Lib.hid (show B ≤ (wb.alloc (Obj.cells #[Value.string s] 9)).heap.size from KC.out.low)
  clear hba
  go_wp2_with (at_builtin; refine wpList_app_want (by rfl) (.tmp 84) (.tmp 86) 52 rfl B 9 Try.underlying52 text_info rfl _ m _ (by rfl) KC.out.row ⟨wb.heap.size, 0, none⟩ 1 1 [.string s] (by rfl) HON.out rfl (by simp [Value.oneCell']) (by omega) (by unfold maxLen; omega) HBB.out ?_; intro vd wd hownd hgd hbd; have OD := Lib.hid hownd; have GD := Lib.hid hgd; have BD := Lib.hid hbd; clear hownd hgd hbd)
  obtain ⟨pd, cd, rfl, _, _, _, _, _⟩ := own_at OD.out
  have G1 := Lib.hid (show GoodT wd l3 pd cd from row_goodT (by have h1 := OD.out; rwa [HM3.out, hmn] at h1))
  have G2 := Lib.hid (show GoodT wd l3 qb cb from GC.out.blocks fun a ha => GD.out.block a.block (by have := HLT.out a ha; have := HSZ.out; omega) fun e => HAP.out a ha a.block e.symm rfl)
  have SD := Lib.hid (show Solo R w wd b fpb (n, l3) from KC.out.solo.grown K.out GD.out BD.out HB5.out KC.out.out)
  clear OD GD BD KC GC HON HSZ HBB KB GB HAP HLT
  have HST := Lib.hid (show Calls Try.prog 23 #[.slice qb n cb, .slice pd n cd] wd (SameTDone true wd) from by
    have h1 := sameT_any l3 l3 n n qb pd cb cd wd HL3.out HL3.out G2.out G1.out
    rwa [show decide (l3 = l3) = true from decide_eq_true rfl] at h1)
  rw [hmn]
  refine HST.out.mono ?_
  rintro e we ⟨rfl, j, hwe⟩
  have SE := Lib.hid (show Solo R w we b fpb (n, l3) by rw [hwe]; exact SD.out.on K.out (below_drewN (Below.refl _ _) j))
  clear hwe SD HST G1 G2
  have HPF := Lib.hid (show Calls Try.prog 28 #[optr b, .string s] we (ODone R b fpb (n, l3) (v64 8) we) from by
    have h1 := F.ok.put b fpb n l3 s we SE.out.one trivial
    have h2 := put_full (l := l3) (x := s) (m := n) (by rw [HL3.out]; omega)
    rwa [h2.1, h2.2] at h1)
  go_wp2_with fail
  refine HPF.out.mono ?_
  rintro e wf ⟨rfl, fpf, hr, ht, hf⟩
  have BF := Lib.hid (SE.out.step hr ht hf).below
  clear hr ht hf SE HPF
  go_wp2_with fail
  go_ret
  exact ⟨rfl, BF.out⟩
end Go.Proofs.Ytnpageceaknofaa
