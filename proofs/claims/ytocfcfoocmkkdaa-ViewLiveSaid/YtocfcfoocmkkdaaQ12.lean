/-
  What views hold: of each node the word that is over all others that came.
  The kit's Pick.
  The law ViewLive.
-/
import Derived.Test.YtocfcfoocmkkdaaQ5
import Derived.Test.YtocfcfoocmkkdaaRows
import Derived.WalkKit
import Derived.WalkSpells
import Derived.WalkLawsBesides
import Derived.IntWalk
import Derived.Lib.Hide
import Derived.Test.YtocfcfoocmkkdaaQ1
import Derived.Test.YtocfcfoocmkkdaaQ11
namespace Go.Proofs.Ytocfcfoocmkkdaa
section
set_option linter.unusedSimpArgs false
set_option linter.unusedVariables false
namespace Vw
theorem not_up_trans {a b c : Mb} (h : ¬ a.Up b) (h2 : ¬ b.Up c) : ¬ a.Up c := by unfold Mb.Up at *; omega
theorem Up.lt {l : List Mb} (h : Up l) {i j : Nat} (hi : i < l.length) (hj : j < l.length) (hij : i < j) : l[i].I < l[j].I := List.pairwise_iff_getElem.1 h i j hi hj hij
theorem Up.same {l : List Mb} (h : Up l) {x y : Mb} (hx : x ∈ l) (hy : y ∈ l) (he : x.I = y.I) : x = y := by
  obtain ⟨i, hi, rfl⟩ := List.mem_iff_getElem.1 hx
  obtain ⟨j, hj, rfl⟩ := List.mem_iff_getElem.1 hy
  rcases Nat.lt_trichotomy i j with h1 | h1 | h1
  · have := h.lt hi hj h1; omega
  · subst h1; rfl
  · have := h.lt hj hi h1; omega
theorem word_mem {l : List Mb} (h : Up l) {x : Mb} (hx : x ∈ l) : word l x.I = some x := by
  cases hw : word l x.I with
  | none => exact absurd rfl (word_none.1 hw x hx)
  | some y =>
    obtain ⟨h1, h2⟩ := word_some hw
    rw [h.same h1 hx h2]
/-- Rising lists of the same words are the same. -/
theorem Up.ext : ∀ {l l' : List Mb}, Up l → Up l' → (∀ x, x ∈ l ↔ x ∈ l') → l = l'
  | [], [], _, _, _ => rfl
  | [], y :: l', _, _, h => by have := (h y).2 (List.mem_cons_self ..); cases this
  | x :: l, [], _, _, h => by have := (h x).1 (List.mem_cons_self ..); cases this
  | x :: l, y :: l', h1, h2, h => by
    have a1 := (List.pairwise_cons.1 h1).1
    have a2 := (List.pairwise_cons.1 h2).1
    have hx := (h x).1 (List.mem_cons_self ..)
    have hy := (h y).2 (List.mem_cons_self ..)
    have e : x = y := by
      rcases List.mem_cons.1 hx with e | e
      · exact e
      · rcases List.mem_cons.1 hy with e2 | e2
        · exact e2.symm
        · have := a2 x e; have := a1 y e2; omega
    subst e
    congr 1
    refine Up.ext (List.pairwise_cons.1 h1).2 (List.pairwise_cons.1 h2).2 fun z => ⟨fun hz => ?_, fun hz => ?_⟩
    · rcases List.mem_cons.1 ((h z).1 (List.mem_cons_of_mem _ hz)) with e | e
      · subst e; have := a1 z hz; omega
      · exact e
    · rcases List.mem_cons.1 ((h z).2 (List.mem_cons_of_mem _ hz)) with e | e
      · subst e; have := a2 z hz; omega
      · exact e
/-- A view of just the words that came: each is left, or one over it. -/
structure Top (S : Mb → Prop) (v : List Mb) : Prop where
  ok : Ok v
  sub : ∀ x ∈ v, S x
  top : ∀ y, S y → ∃ x ∈ v, x.I = y.I ∧ ¬ y.Up x
theorem Top.same {S : Mb → Prop} {v v' : List Mb} (h : Top S v) (h' : Top S v') : v = v' := by
  have key : ∀ {v v' : List Mb}, Top S v → Top S v' → ∀ x ∈ v, x ∈ v' := by
    intro v v' h h' x hx
    obtain ⟨x', hx', e1, n1⟩ := h'.top x (h.sub x hx)
    obtain ⟨x2, hx2, e2, n2⟩ := h.top x' (h'.sub x' hx')
    have : x2 = x := h.ok.2.same hx2 hx (by omega)
    subst this
    rcases Mb.up_or (a := x2) (b := x') (by omega) with u | u | u
    · exact absurd u n1
    · exact absurd u n2
    · rw [u]; exact hx'
  exact Up.ext h.ok.2 h'.ok.2 fun x => ⟨key h h' x, key h' h x⟩
theorem Top.cover {S S' : Mb → Prop} {v : List Mb} (h : Top S v) (h1 : ∀ x, S x → S' x) (h2 : ∀ y, S' y → ∃ z, S z ∧ z.I = y.I ∧ ¬ y.Up z) : Top S' v :=
  ⟨h.ok, fun x hx => h1 x (h.sub x hx), fun y hy => by
    obtain ⟨z, hz, e, n⟩ := h2 y hy
    obtain ⟨x, hx, e', n'⟩ := h.top z hz
    exact ⟨x, hx, by omega, not_up_trans n n'⟩⟩
theorem Top.self {v : List Mb} (h : Ok v) : Top (· ∈ v) v := ⟨h, fun _ h => h, fun y hy => ⟨y, hy, rfl, fun u => Mb.up_not u u⟩⟩
theorem Top.nil : Top (fun _ => False) [] := ⟨Ok.nil, by simp, fun _ h => h.elim⟩
theorem merge_two {a b : Mb} (h : a.Both b) : (a.merge b = a ∨ a.merge b = b) ∧ ¬ a.Up (a.merge b) ∧ ¬ b.Up (a.merge b) := by
  unfold Mb.merge
  rw [if_pos h]
  split
  · rename_i hu; exact ⟨Or.inl rfl, fun x => Mb.up_not x x, Mb.up_not hu⟩
  · rename_i hu; exact ⟨Or.inr rfl, hu, fun x => Mb.up_not x x⟩
/-- What comes of one word more. -/
theorem ins_spec {v : List Mb} (h : Ok v) {m : Mb} (hm : m.May) : Ok (ins v m) ∧ (∀ x ∈ ins v m, x ∈ v ∨ x = m) ∧ (∀ y, (y ∈ v ∨ y = m) → ∃ x ∈ ins v m, x.I = y.I ∧ ¬ y.Up x) ∧ (∀ x ∈ ins v m, x.I = m.I ∨ ∃ y ∈ v, y.I = x.I) := by
  have irr : ∀ a : Mb, ¬ a.Up a := fun a u => Mb.up_not u u
  induction v with
  | nil =>
    refine ⟨⟨by simpa [ins] using hm, by simp [ins, Vw.Up]⟩, by simp [ins], ?_, by simp [ins]⟩
    intro y hy
    rcases hy with h | rfl
    · cases h
    · exact ⟨y, by simp [ins], rfl, irr y⟩
  | cons a v ih =>
    have ha := h.1 a (List.mem_cons_self ..)
    have hv : Ok v := h.sub (List.sublist_cons_self ..)
    have hp := (List.pairwise_cons.1 h.2).1
    obtain ⟨i1, i2, i3, i4⟩ := ih hv
    unfold ins
    split
    · rename_i hlt
      refine ⟨⟨?_, List.pairwise_cons.2 ⟨?_, h.2⟩⟩, ?_, ?_, ?_⟩
      · intro x hx
        rcases List.mem_cons.1 hx with rfl | hx
        · exact hm
        · exact h.1 x hx
      · intro x hx
        rcases List.mem_cons.1 hx with rfl | hx
        · exact hlt
        · have := hp x hx; omega
      · intro x hx
        rcases List.mem_cons.1 hx with rfl | hx
        · exact Or.inr rfl
        · exact Or.inl hx
      · intro y hy
        refine ⟨y, ?_, rfl, irr y⟩
        rcases hy with hy | rfl
        · exact List.mem_cons_of_mem _ hy
        · exact List.mem_cons_self ..
      · intro x hx
        rcases List.mem_cons.1 hx with rfl | hx
        · exact Or.inl rfl
        · exact Or.inr ⟨x, hx, rfl⟩
    · split
      · rename_i hn he
        have hb : a.Both m := ⟨ha, hm, he⟩
        obtain ⟨m1, m2, m3⟩ := merge_two hb
        have mI : (a.merge m).I = m.I := by rcases m1 with e | e <;> rw [e]; exact he
        have mM : (a.merge m).May := by rcases m1 with e | e <;> rw [e] <;> assumption
        refine ⟨⟨?_, List.pairwise_cons.2 ⟨?_, hv.2⟩⟩, ?_, ?_, ?_⟩
        · intro x hx
          rcases List.mem_cons.1 hx with rfl | hx
          · exact mM
          · exact hv.1 x hx
        · intro x hx; have := hp x hx; omega
        · intro x hx
          rcases List.mem_cons.1 hx with rfl | hx
          · rcases m1 with e | e
            · rw [e]; exact Or.inl (List.mem_cons_self ..)
            · exact Or.inr e
          · exact Or.inl (List.mem_cons_of_mem _ hx)
        · intro y hy
          rcases hy with hy | rfl
          · rcases List.mem_cons.1 hy with rfl | hy
            · exact ⟨_, List.mem_cons_self .., by omega, m2⟩
            · exact ⟨y, List.mem_cons_of_mem _ hy, rfl, irr y⟩
          · exact ⟨_, List.mem_cons_self .., mI, m3⟩
        · intro x hx
          rcases List.mem_cons.1 hx with rfl | hx
          · exact Or.inl mI
          · exact Or.inr ⟨x, List.mem_cons_of_mem _ hx, rfl⟩
      · rename_i hn he
        refine ⟨⟨?_, List.pairwise_cons.2 ⟨?_, i1.2⟩⟩, ?_, ?_, ?_⟩
        · intro x hx
          rcases List.mem_cons.1 hx with rfl | hx
          · exact ha
          · exact i1.1 x hx
        · intro x hx
          rcases i4 x hx with e | ⟨y, hy, e⟩
          · omega
          · have := hp y hy; omega
        · intro x hx
          rcases List.mem_cons.1 hx with rfl | hx
          · exact Or.inl (List.mem_cons_self ..)
          · rcases i2 x hx with e | e
            · exact Or.inl (List.mem_cons_of_mem _ e)
            · exact Or.inr e
        · intro y hy
          by_cases e : y = a
          · subst e; exact ⟨y, List.mem_cons_self .., rfl, irr y⟩
          · obtain ⟨x, hx, h1, h2⟩ := i3 y (by
              rcases hy with hy | hy
              · rcases List.mem_cons.1 hy with h | h
                · exact absurd h e
                · exact Or.inl h
              · exact Or.inr hy)
            exact ⟨x, List.mem_cons_of_mem _ hx, h1, h2⟩
        · intro x hx
          rcases List.mem_cons.1 hx with rfl | hx
          · exact Or.inr ⟨x, List.mem_cons_self .., rfl⟩
          · rcases i4 x hx with e | ⟨y, hy, e⟩
            · exact Or.inl e
            · exact Or.inr ⟨y, List.mem_cons_of_mem _ hy, e⟩
theorem Top.ins {S : Mb → Prop} {v : List Mb} (h : Top S v) {m : Mb} (hm : m.May) : Top (fun x => S x ∨ x = m) (ins v m) := by
  obtain ⟨h1, h2, h3, _⟩ := ins_spec h.ok hm
  refine ⟨h1, fun x hx => (h2 x hx).imp (h.sub x) id, fun y hy => ?_⟩
  rcases hy with hy | rfl
  · obtain ⟨x, hx, e, n⟩ := h.top y hy
    obtain ⟨z, hz, e2, n2⟩ := h3 x (Or.inl hx)
    exact ⟨z, hz, by omega, not_up_trans n n2⟩
  · exact h3 y (Or.inr rfl)
theorem Top.put {S : Mb → Prop} {v words : List Mb} (h : Top S v) (hw : ∀ x ∈ words, x.May) : Top (fun x => S x ∨ x ∈ words) (put v words) := by
  unfold Vw.put
  induction words generalizing v S with
  | nil => exact ⟨h.ok, fun x hx => Or.inl (h.sub x hx), fun y hy => h.top y (hy.elim id (fun h => by cases h))⟩
  | cons m words ih =>
    have := ih (h.ins (hw m (List.mem_cons_self ..))) (fun x hx => hw x (List.mem_cons_of_mem _ hx))
    refine ⟨this.ok, fun x hx => ?_, fun y hy => this.top y ?_⟩
    · rcases this.sub x hx with (h1 | h1) | h1
      · exact Or.inl h1
      · subst h1; exact Or.inr (List.mem_cons_self ..)
      · exact Or.inr (List.mem_cons_of_mem _ h1)
    · rcases hy with h1 | h1
      · exact Or.inl (Or.inl h1)
      · rcases List.mem_cons.1 h1 with e | e
        · exact Or.inl (Or.inr e)
        · exact Or.inr e
theorem put_top {v words : List Mb} (h : Ok v) (hw : ∀ x ∈ words, x.May) : Top (fun x => x ∈ v ∨ x ∈ words) (put v words) := (Top.self h).put hw
theorem mrg_ok {v words : List Mb} (h : Ok v) (hw : ∀ x ∈ words, x.May) : mrg v words = (put v words, fresh v (put v words), 0) := if_pos ⟨h, hw⟩
theorem fresh_mem {v out : List Mb} {x : Mb} : x ∈ fresh v out ↔ x ∈ out ∧ word v x.I ≠ some x := by unfold fresh; simp
theorem fresh_same {v : List Mb} (h : Ok v) : fresh v v = [] := by
  unfold fresh
  rw [List.filter_eq_nil_iff]
  intro x hx
  simp [word_mem h.2 hx]
theorem fresh_ok {v out : List Mb} (h : Ok out) : Ok (fresh v out) := h.sub List.filter_sublist
end Vw
end
section
set_option linter.unusedSimpArgs false
set_option linter.unusedVariables false
open Go.RowKit Sha
def pickOf (x n : Int) : Int := if n < 1 then 0 else x % n
theorem tmod_bd (x n : Int) (h0 : 1 ≤ n) : -n < x.tmod n ∧ x.tmod n < n := by
  rw [Int.tmod_eq_emod]
  have h1 := Int.emod_nonneg x (show n ≠ 0 by omega)
  have h2 := Int.emod_lt_of_pos x (show 0 < n by omega)
  have h3 : (n.natAbs : Int) = n := by omega
  split
  · omega
  · rename_i h
    have h4 : x % n ≠ 0 := fun h5 => h (Or.inr (Int.dvd_of_emod_eq_zero h5))
    omega
theorem pick_pos (x n : Int) (h0 : 1 ≤ n) (h : ¬ x.tmod n < 0) : pickOf x n = x.tmod n := by
  unfold pickOf
  rw [if_neg (by omega)]
  rw [Int.tmod_eq_emod] at h ⊢
  have h2 := Int.emod_lt_of_pos x (show 0 < n by omega)
  have h3 : (n.natAbs : Int) = n := by omega
  split at h <;> rename_i h4 <;> simp [h4] <;> omega
theorem pick_neg (x n : Int) (h0 : 1 ≤ n) (h1 : n ≤ 9223372036854775807) (h : x.tmod n < 0) : pickOf x n = wrap64 (x.tmod n + n) := by
  have hb := tmod_bd x n h0
  have hw : wrap64 (x.tmod n + n) = x.tmod n + n := IntWalk.wrap64_in _ (by omega)
  rw [hw]
  unfold pickOf
  rw [if_neg (by omega)]
  rw [Int.tmod_eq_emod] at h ⊢
  have h2 := Int.emod_nonneg x (show n ≠ 0 by omega)
  have h3 : (n.natAbs : Int) = n := by omega
  split at h <;> rename_i h4 <;> simp [h4] <;> omega
theorem pickOf_bd (x n : Int) (h0 : 1 ≤ n) : 0 ≤ pickOf x n ∧ pickOf x n < n := by
  unfold pickOf
  rw [if_neg (by omega)]
  exact ⟨Int.emod_nonneg x (by omega), Int.emod_lt_of_pos x (by omega)⟩
set_option maxHeartbeats 400000 in
theorem pick_any (x n : Int) (w : World) (h0 : 1 ≤ n) (h1 : n ≤ 9223372036854775807) (hx : -9223372036854775808 ≤ x ∧ x ≤ 9223372036854775807) :
    Calls Try.prog 27 #[.int .i64 x, .int .i64 n] w fun e w' => e = .returned (.int .i64 (pickOf x n)) ∧ w = w' := by
  go_enter Try.func27, Try.ntmps27
  by_cases hneg : x.tmod n < 0
  · have HE := Lib.hid (pick_neg x n h0 h1 hneg)
    go_wp2
    go_ret
    exact ⟨ret_int (by rw [HE.out]), rfl⟩
  · have HE := Lib.hid (pick_pos x n h0 hneg)
    go_wp2
    go_ret
    exact ⟨ret_int (by rw [HE.out]), rfl⟩
end
section
set_option linter.unusedSimpArgs false
set_option linter.unusedVariables false
open Go.RowKit Sha
/-- How often a node stands in a rising list. -/
theorem Vw.count_up : ∀ {v : List Mb} (f : Mb → Bool) (nd : Int), Vw.Up v → ((((v.filter f).map (·.I)).filter (· == nd)).length = 1 ∧ ∃ x, Vw.word v nd = some x ∧ f x = true) ∨ ((((v.filter f).map (·.I)).filter (· == nd)).length = 0 ∧ ∀ x, Vw.word v nd = some x → f x = false)
  | [], f, nd, _ => Or.inr ⟨rfl, by intro x h; simp [Vw.word] at h⟩
  | a :: v, f, nd, h => by
    have h1 := (List.pairwise_cons.1 h).1
    have h2 := (List.pairwise_cons.1 h).2
    have ih := Vw.count_up (v := v) f nd h2
    have hw : Vw.word (a :: v) nd = if a.I == nd then some a else Vw.word v nd := by unfold Vw.word; rw [List.find?_cons]; split <;> simp_all
    rw [hw]
    by_cases ha : a.I = nd
    · have hn : ∀ x, Vw.word v nd ≠ some x := by
        intro x hx
        obtain ⟨m1, m2⟩ := Vw.word_some hx
        have := h1 x m1; omega
      have h0 : (((v.filter f).map (·.I)).filter (· == nd)).length = 0 := by
        rcases ih with ⟨_, x, hx, _⟩ | ⟨h, _⟩
        · exact absurd hx (hn x)
        · exact h
      rw [if_pos (by simpa using ha)]
      cases hf : f a with
      | true => left; refine ⟨?_, a, rfl, hf⟩; rw [List.filter_cons, if_pos hf, List.map_cons, List.filter_cons, if_pos (by simpa using ha), List.length_cons, h0]
      | false => right; refine ⟨?_, fun x hx => by cases hx; exact hf⟩; rw [List.filter_cons, if_neg (by simp [hf])]; exact h0
    · rw [if_neg (by simpa using ha)]
      have he : ((((a :: v).filter f).map (·.I)).filter (· == nd)).length = (((v.filter f).map (·.I)).filter (· == nd)).length := by
        rw [List.filter_cons]
        split
        · rw [List.map_cons, List.filter_cons, if_neg (by simpa using ha)]
        · rfl
      rw [he]; exact ih
section
attribute [local go_sem ↓] execOp_loadM execOp_storeM execOp_eqlM execOp_neqM execOp_buildM
set_option maxRecDepth 100000 in
set_option maxHeartbeats 8000000 in
theorem livelaw_any (V : ViewOK) (l : List Mb) (n : Nat) (q : Option Addr) (c : Nat) (nd0 : Int) (w : World) (hn : l.length = n) (hl : GoodW w l q c) (hnd : -9223372036854775808 ≤ nd0 ∧ nd0 ≤ 9223372036854775807) :
    Calls Try.prog 8 #[.slice q n c, .int .i64 nd0] w (BoolDone true w) := by
  have HL := Lib.hid hl
  have HN := Lib.hid hn
  have b1 := hl.le
  have b2 := hl.max
  rw [hn] at b1
  have HND := Lib.hid hnd
  clear hl hn hnd
  go_enter Try.func8, Try.ntmps8
  go_wp2_with fail
  refine (awake_any V _).mono ?_
  rintro e w1 ⟨rfl, hb1⟩
  have HB1 := Lib.hid hb1
  clear hb1
  by_cases h1 : n ≤ 64
  · have t1 : decide ((64 : Int) < (n : Int)) = false := decide_eq_false (by omega)
    have HC := Lib.hid (fun w' (hb : Below w.heap.size w w') => V.check l n q c w' HN.out (HL.out.below hb) (by omega))
    by_cases hok : Vw.Ok l
    · rw [show Vw.err l = 0 from if_pos hok] at HC
      have HP := Lib.hid (fun w' => pick_any nd0 64 w' (by decide) (by decide) HND.out)
      have hpb := pickOf_bd nd0 64 (by decide)
      generalize pickOf nd0 64 = pj at *
      obtain ⟨nd, hnd⟩ : ∃ nd, nd = 1 + pj := ⟨_, rfl⟩
      have hw0 : wrap64 (1 + pj) = nd := by rw [hnd]; exact IntWalk.wrap64_in _ (by omega)
      have hw00 : IntKind.i64.wrap (1 + pj) = nd := by rw [hnd]; exact IntWalk.i64_in _ (by omega)
      have HG := Lib.hid (fun w' (hb : Below w.heap.size w w') => V.get l n q c nd w' HN.out (HL.out.below hb) (by omega) (by omega))
      have HLI := Lib.hid (fun w' (hb : Below w.heap.size w w') => V.live l n q c w' HN.out (HL.out.below hb) (by omega))
      have HAL := Lib.hid (fun w' (hb : Below w.heap.size w w') => V.alive l n q c w' HN.out (HL.out.below hb) (by omega))
      have HGE := Lib.hid (Vw.get_ok nd hok)
      have HLE := Lib.hid (show Vw.live l = (l.filter Mb.live).map (·.I) from if_pos hok)
      have HAE := Lib.hid (show Vw.alive l = (l.filter (fun x => x.S == 1)).map (·.I) from if_pos hok)
      have HCL := Lib.hid (Vw.count_up Mb.live nd hok.2)
      have HCA := Lib.hid (Vw.count_up (fun x => x.S == 1) nd hok.2)
      have NLI := Lib.hid (Vw.live_nums HL.out.ok)
      have NAL := Lib.hid (Vw.alive_nums HL.out.ok)
      have NLL := Lib.hid (show (Vw.live l).length ≤ n from by have := Vw.live_len l; rw [HN.out] at this; exact this)
      have NLA := Lib.hid (show (Vw.alive l).length ≤ n from by have := Vw.alive_len l; rw [HN.out] at this; exact this)
      rw [← HLE.out] at HCL
      rw [← HAE.out] at HCA
      clear HLE HAE hok
      generalize Vw.get l nd = z at *
      obtain ⟨x, er⟩ := z
      generalize Vw.live l = xs at *
      generalize Vw.alive l = ys at *
      obtain ⟨a, ha⟩ : ∃ a, xs.length = a := ⟨_, rfl⟩
      obtain ⟨b', hb'⟩ : ∃ b, ys.length = b := ⟨_, rfl⟩
      have HA := Lib.hid ha
      have HBn := Lib.hid hb'
      have hla : a ≤ 64 := by rw [← ha]; have := NLL.out; omega
      have hlb : b' ≤ 64 := by rw [← hb']; have := NLA.out; omega
      clear ha hb' hpb hnd
      go_wp2_with fail
      refine (HC.out _ HB1.out).mono ?_
      rintro e w2 ⟨rfl, hb2⟩
      have HB2 := Lib.hid (below_next HB1.out hb2)
      clear hb2
      go_wp2_with fail
      refine (HP.out w2).mono ?_
      rintro e w3 ⟨rfl, rfl⟩
      go_wp2_with fail
      refine (HG.out _ HB2.out).mono ?_
      rintro e w4 ⟨rfl, hb4⟩
      have s4 := put_run w4 x
      have P4 := Lib.hid (put_blk w4 x)
      have HB4 := Lib.hid (below_next HB2.out (Below.go hb4 (put_below w4 x)))
      clear hb4
      generalize putM w4 x = w5 at *
      go_wp2_with fail
      generalize w4.heap.size = gA at *
      clear s4 hw0 hw00
      refine (HLI.out w5 HB4.out).mono ?_
      rintro e w6 ⟨r6, rfl, o6, hb6⟩
      have o6 : Own64 w6 w5.heap.size 3 r6 a (xs.map v64) := by rw [← HA.out]; exact o6
      obtain ⟨qx, cx, rfl, _, gx⟩ := o6.good NLI.out
      have GX := Lib.hid gx
      have fx := gx.le
      have fxm := gx.max
      rw [HA.out] at fx
      have HB6 := Lib.hid (below_next HB4.out hb6)
      have P6 := Lib.hid (P4.out.upon hb6)
      clear o6 gx hb6 P4
      go_wp2_with fail
      refine (HAL.out w6 HB6.out).mono ?_
      rintro e w9 ⟨r7, rfl, o7, hb7⟩
      have o7 : Own64 w9 w6.heap.size 3 r7 b' (ys.map v64) := by rw [← HBn.out]; exact o7
      obtain ⟨qy, cy, rfl, _, gy⟩ := o7.good NAL.out
      have GY := Lib.hid gy
      have fy := gy.le
      have fym := gy.max
      rw [HBn.out] at fy
      have HB7 := Lib.hid (below_next HB6.out hb7)
      have P7 := Lib.hid (P6.out.upon hb7)
      have GX9 := Lib.hid (GX.out.below hb7)
      have GX9N := HA
      have GYN := HBn
      have HBL := Lib.hid (Below.refl w9.heap.size w9)
      clear o7 gy hb7 P6 GX HC HP HG HLI HAL NLI NAL NLL NLA
      go_wp2_with fail
      go_loopw [12, 8] (fun i s wr => ∃ k c : Nat, i = .int .i64 k ∧ s = .int .i64 c ∧ k ≤ a ∧ c ≤ k ∧ Hid (((xs.take k).filter (· == nd)).length = c) ∧ Hid (Below w9.heap.size w9 wr)) (fun i _ _ => a - (intOf i).toNat)
      case atStart => exact ⟨0, 0, rfl, rfl, Nat.zero_le _, Nat.le_refl _, Lib.hid (by simp), HBL⟩
      case round =>
        clear HBL
        obtain ⟨k, c, rfl, rfl, hk, hck, HCN, HBL⟩ := hrel
        by_cases hlt : k < a
        · have hkl : k < xs.length := by rw [GX9N.out]; exact hlt
          obtain ⟨b, off, hqq, cp⟩ := GX9.out.at_.addr (by rw [List.length_map]; omega)
          subst hqq
          have c1 : wr.cell? ⟨b, off + k, none⟩ = some (.int .i64 xs[k]) := by
            have h0 : w9.cell? ⟨b, off + k, none⟩ = some (.int .i64 xs[k]) := cp k _ (by rw [List.getElem?_map, List.getElem?_eq_getElem hkl]; rfl)
            exact (HBL.out.cell (World.block_lt_of_cell? w9 _ h0)).trans h0
          have jk : (0 : Int) ≤ (k : Int) ∧ (k : Int) < (a : Int) := by omega
          have HTK := Lib.hid (show xs.take (k + 1) = xs.take k ++ [xs[k]] from List.take_succ_eq_append_getElem hkl)
          generalize xs[k] = y at *
          have hw1 : IntKind.i64.wrap ((c : Int) + 1) = (c : Int) + 1 := IntWalk.i64_in _ (by omega)
          clear cp hkl
          by_cases hy : y = nd
          · have t1 : (y == nd) = true := by simpa using hy
            have HC2 := Lib.hid (show ((xs.take (k + 1)).filter (· == nd)).length = c + 1 from by rw [HTK.out, List.filter_append]; simp [t1, HCN.out])
            clear hy
            go_wp2_with fail
            go_roundw
            case rel => exact ⟨k + 1, c + 1, by go_num, by go_num, by omega, by omega, HC2, HBL⟩
            case measure => simp [intOf]; omega
          · have t1 : (y == nd) = false := by simpa using hy
            have HC2 := Lib.hid (show ((xs.take (k + 1)).filter (· == nd)).length = c from by rw [HTK.out, List.filter_append]; simp [t1, HCN.out])
            clear hy
            go_wp2_with fail
            go_roundw
            case rel => exact ⟨k + 1, c, by go_num, rfl, by omega, by omega, HC2, HBL⟩
            case measure => simp [intOf]; omega
        · obtain rfl : a = k := by omega
          have HCX := HCN
          have hcx64 : c ≤ 64 := by omega
          obtain ⟨cx1, hcx1⟩ : ∃ c1, c1 = c := ⟨_, rfl⟩
          rw [← hcx1] at HCX hcx64 ⊢
          clear hcx1 HCN hk hlt hck
          go_wp2_with fail
          go_loopw [13, 9] (fun i s wr => ∃ k c : Nat, i = .int .i64 k ∧ s = .int .i64 c ∧ k ≤ b' ∧ c ≤ k ∧ Hid (((ys.take k).filter (· == nd)).length = c) ∧ Hid (Below w9.heap.size w9 wr)) (fun i _ _ => b' - (intOf i).toNat)
          case atStart => exact ⟨0, 0, rfl, rfl, Nat.zero_le _, Nat.le_refl _, Lib.hid (by simp), HBL⟩
          case round =>
            clear HBL
            obtain ⟨k, c, rfl, rfl, hk, hck, HCN, HBL⟩ := hrel
            by_cases hlt : k < b'
            · have hkl : k < ys.length := by rw [GYN.out]; exact hlt
              obtain ⟨b, off, hqq, cp⟩ := GY.out.at_.addr (by rw [List.length_map]; omega)
              subst hqq
              have c1 : wr.cell? ⟨b, off + k, none⟩ = some (.int .i64 ys[k]) := by
                have h0 : w9.cell? ⟨b, off + k, none⟩ = some (.int .i64 ys[k]) := cp k _ (by rw [List.getElem?_map, List.getElem?_eq_getElem hkl]; rfl)
                exact (HBL.out.cell (World.block_lt_of_cell? w9 _ h0)).trans h0
              have jk : (0 : Int) ≤ (k : Int) ∧ (k : Int) < (b' : Int) := by omega
              have HTK := Lib.hid (show ys.take (k + 1) = ys.take k ++ [ys[k]] from List.take_succ_eq_append_getElem hkl)
              generalize ys[k] = y at *
              have hw1 : IntKind.i64.wrap ((c : Int) + 1) = (c : Int) + 1 := IntWalk.i64_in _ (by omega)
              clear cp hkl
              by_cases hy : y = nd
              · have t1 : (y == nd) = true := by simpa using hy
                have HC2 := Lib.hid (show ((ys.take (k + 1)).filter (· == nd)).length = c + 1 from by rw [HTK.out, List.filter_append]; simp [t1, HCN.out])
                clear hy
                go_wp2_with fail
                go_roundw
                case rel => exact ⟨k + 1, c + 1, by go_num, by go_num, by omega, by omega, HC2, HBL⟩
                case measure => simp [intOf]; omega
              · have t1 : (y == nd) = false := by simpa using hy
                have HC2 := Lib.hid (show ((ys.take (k + 1)).filter (· == nd)).length = c from by rw [HTK.out, List.filter_append]; simp [t1, HCN.out])
                clear hy
                go_wp2_with fail
                go_roundw
                case rel => exact ⟨k + 1, c, by go_num, rfl, by omega, by omega, HC2, HBL⟩
                case measure => simp [intOf]; omega
            · obtain rfl : b' = k := by omega
              rename World => wz
              have HX1 := Lib.hid (show (xs.filter (· == nd)).length = cx1 from by have := HCX.out; rwa [List.take_of_length_le (by rw [HA.out]; exact Nat.le_refl _)] at this)
              have HY1 := Lib.hid (show (ys.filter (· == nd)).length = c from by have := HCN.out; rwa [List.take_of_length_le (by rw [HBn.out]; exact Nat.le_refl _)] at this)
              rw [HX1.out] at HCL
              rw [HY1.out] at HCA
              have PZ := Lib.hid (P7.out.upon HBL.out)
              have BZ := Lib.hid (below_next HB7.out HBL.out)
              clear HX1 HY1 HCN HCX hk hlt hck
              have m1 := run_loadM (rangeM_of PZ.out)
              have c1 := rangeM_S (rangeM_of PZ.out)
              simp only [Nat.zero_add] at c1
              have HLV := Lib.hid (live_any x)
              cases hwd : Vw.word l nd with
              | none =>
                have e0 : x = Mb.none ∧ er = 6 := by have := HGE.out; unfold Vw.wordR at this; rw [hwd] at this; simpa using this
                obtain ⟨rfl, rfl⟩ := e0
                obtain rfl : cx1 = 0 := by rcases HCL.out with ⟨_, y, hy, _⟩ | ⟨h, _⟩; rw [hwd] at hy; cases hy; exact h
                obtain rfl : c = 0 := by rcases HCA.out with ⟨_, y, hy, _⟩ | ⟨h, _⟩; rw [hwd] at hy; cases hy; exact h
                clear hwd HCL HCA HGE
                go_wp2_with fail
                go_ret
                exact ⟨rfl, BZ.out⟩
              | some y =>
                have e0 : x = y ∧ er = 0 := by have := HGE.out; unfold Vw.wordR at this; rw [hwd] at this; simpa using this
                obtain ⟨rfl, rfl⟩ := e0
                have hcl : cx1 = if x.live then 1 else 0 := by
                  rcases HCL.out with ⟨h, y, hy, hf⟩ | ⟨h, hf⟩
                  · rw [hwd] at hy; cases hy; rw [h, hf]; rfl
                  · rw [h, hf x hwd]; rfl
                have hca : c = if x.S == 1 then 1 else 0 := by
                  rcases HCA.out with ⟨h, y, hy, hf⟩ | ⟨h, hf⟩
                  · rw [hwd] at hy; cases hy; rw [h, hf]; rfl
                  · rw [h, hf x hwd]; rfl
                clear hwd HCL HCA HGE
                by_cases hS : x.S = 1
                · have t1 : (x.S == 1) = true := by simpa using hS
                  have t2 : x.live = true := by unfold Mb.live; simp [hS]
                  rw [t1] at hca
                  rw [t2] at hcl HLV
                  simp only [if_true] at hca hcl
                  subst hca hcl
                  clear hS t2
                  go_wp2_with fail
                  refine (HLV.out _).mono ?_
                  rintro e wq ⟨rfl, hbq⟩
                  have c2 : wq.cell? ⟨gA, 1, none⟩ = some (.int .i64 x.S) := by have := rangeM_S (rangeM_of (PZ.out.upon hbq)); simpa using this
                  have BQ := Lib.hid (below_next BZ.out hbq)
                  clear hbq c1 m1
                  go_wp2_with fail
                  go_ret
                  exact ⟨rfl, BQ.out⟩
                · have t1 : (x.S == 1) = false := by simpa using hS
                  rw [t1] at hca
                  obtain ⟨lv, hlv⟩ : ∃ lv, lv = x.live := ⟨_, rfl⟩
                  rw [← hlv] at hcl HLV
                  simp only [Bool.false_eq_true, if_false] at hca
                  subst hca
                  clear hS hlv
                  cases lv with
                  | true =>
                    simp only [if_true] at hcl
                    subst hcl
                    go_wp2_with fail
                    refine (HLV.out _).mono ?_
                    rintro e wq ⟨rfl, hbq⟩
                    have c2 : wq.cell? ⟨gA, 1, none⟩ = some (.int .i64 x.S) := by have := rangeM_S (rangeM_of (PZ.out.upon hbq)); simpa using this
                    have BQ := Lib.hid (below_next BZ.out hbq)
                    clear hbq c1 m1
                    go_wp2_with fail
                    go_ret
                    exact ⟨rfl, BQ.out⟩
                  | false =>
                    simp only [Bool.false_eq_true, if_false] at hcl
                    subst hcl
                    go_wp2_with fail
                    refine (HLV.out _).mono ?_
                    rintro e wq ⟨rfl, hbq⟩
                    have c2 : wq.cell? ⟨gA, 1, none⟩ = some (.int .i64 x.S) := by have := rangeM_S (rangeM_of (PZ.out.upon hbq)); simpa using this
                    have BQ := Lib.hid (below_next BZ.out hbq)
                    clear hbq c1 m1
                    go_wp2_with fail
                    go_ret
                    exact ⟨rfl, BQ.out⟩
    · rw [show Vw.err l = 2 from if_neg hok] at HC
      clear hok
      go_wp2_with fail
      refine (HC.out _ HB1.out).mono ?_
      rintro e w2 ⟨rfl, hb2⟩
      have HB2 := Lib.hid (below_next HB1.out hb2)
      go_wp2_with fail
      go_ret
      exact ⟨rfl, HB2.out⟩
  · have t1 : decide ((64 : Int) < (n : Int)) = true := decide_eq_true (by omega)
    go_wp2_with fail
    go_ret
    exact ⟨rfl, HB1.out⟩
end
end
end Go.Proofs.Ytocfcfoocmkkdaa
