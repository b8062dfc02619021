/-
  The law JournalNone, over what journals and disks that nobody made are asked to do.
  Append to a row that is an object's own: where what comes of it lies. Whatever is appended, nothing too. No program is named here.
-/
import Derived.Test.YthopfpfmliookaaJp10
import Derived.Test.YthopfpfmliookaaJp6
import Derived.Deep.AppendLies
namespace Go.Proofs.Ythopfpfmliookaa
section
set_option linter.unusedSimpArgs false
set_option linter.unusedVariables false
open Go.RowKit Sha Dsk Jrn
/-- The cells of a journal that nobody made, and of such a disk (by the landed structs). -/
def zeroJournal : Array Value := #[.pointer none, .pointer none, .slice none 0 0]
def zeroDisk8 : Array Value := #[.pointer none, .slice none 0 0, .int .i64 0, .slice none 0 0, .int .i64 0, .int .i64 0, .int .i64 0, .bool false]
def NoJournal (p : Option Addr) (w : World) : Prop := ∀ a, p = some a → ∃ b, a = ⟨b, 0, none⟩ ∧ Blk w b zeroJournal.toList 28
def NoDisk8 (p : Option Addr) (w : World) : Prop := ∀ a, p = some a → ∃ b, a = ⟨b, 0, none⟩ ∧ Blk w b zeroDisk8.toList 45
def NoneAll (w : World) (e : Ending) (w' : World) : Prop := ∃ q c, e = .returned (.slice q 0 c) ∧ Below w.heap.size w w'
structure JournalsNone : Prop where
  append : ∀ (p : Option Addr) (zs : List Int) (n : Nat) (q : Option Addr) (c : Nat) (w : World), NoJournal p w → zs.length = n → GoodC w zs q c → Calls Try.prog 8 #[.pointer p, .slice q n c] w (SaysB (i64v 1) w)
  sync : ∀ (p : Option Addr) (w : World), NoJournal p w → Calls Try.prog 9 #[.pointer p] w (SaysB (i64v 1) w)
  rewrite : ∀ (p : Option Addr) (l : Rs) (q : Option Addr) (n c : Nat) (w : World), NoJournal p w → Recs w q n c l → Calls Try.prog 10 #[.pointer p, .slice q n c] w (SaysB (i64v 1) w)
  all : ∀ (p : Option Addr) (w : World), NoJournal p w → Calls Try.prog 11 #[.pointer p] w (NoneAll w)
  len : ∀ (p : Option Addr) (w : World), NoJournal p w → Calls Try.prog 12 #[.pointer p] w (SaysB (i64v 0) w)
  firm : ∀ (p : Option Addr) (w : World), NoJournal p w → Calls Try.prog 13 #[.pointer p] w (SaysB (i64v 0) w)
  open_ : ∀ (p : Option Addr) (w : World), NoDisk8 p w → Calls Try.prog 14 #[.pointer p] w (SaysB (.tuple #[.pointer none, i64v 1]) w)
theorem built_zeroJ : Try.prog.built 28 [] = some zeroJournal := by kernel_rfl
theorem built_zeroD : Try.prog.built 45 [] = some zeroDisk8 := by kernel_rfl
theorem recs_one (w : World) (zs : List Int) (n : Nat) (q : Option Addr) (c : Nat) (hn : zs.length = n) (hz : GoodC w zs q c) : Recs (w.alloc (Obj.cells #[.slice q n c] 22)) (some ⟨w.heap.size, 0, none⟩) 1 1 [zs] := by
  subst hn
  refine ⟨rfl, Nat.le_refl _, by omega, (fun h => by cases h), [(zs, q, c)], rfl, at_one w _ _, fun y hy => ?_⟩
  rw [List.mem_singleton.1 hy]
  have h1 := hz.below ((Below.refl w.heap.size w).alloc (Nat.le_refl _) (Obj.cells #[.slice q zs.length c] 22))
  exact ⟨h1.bytes, h1.at_, h1.le, h1.max, h1.nil⟩
set_option maxRecDepth 100000 in
set_option maxHeartbeats 4000000 in
theorem jnone_any {RD : DiskRep} {RJ : JRep} (D : DisksFew RD) (F : JournalOK RD RJ) (Z : JournalsNone) (zs : List Int) (n : Nat) (q : Option Addr) (c : Nat) (w : World) (hn : zs.length = n) (hz : GoodC w zs q c) :
    Calls Try.prog 3 #[.slice q n c] w (SaysB (.bool true) w) := by
  have HN := Lib.hid hn
  have GZ := Lib.hid hz
  clear hn hz
  by_cases h200 : 200 < n
  · have h200' : (200 : Int) < (n : Int) := by omega
    go_enter Try.func3, Try.ntmps3
    go_wp2_with fail
    refine (awake_any D F w).mono ?_
    rintro e w1 ⟨rfl, hb⟩
    have B1 := Lib.hid hb
    clear hb
    go_wp2_with fail
    go_ret
    exact ⟨rfl, B1.out⟩
  have h200' : ¬ (200 : Int) < (n : Int) := by omega
  go_enter Try.func3, Try.ntmps3
  go_wp2_with (first
    | (refine wpList_build' rfl 28 _ rfl zeroJournal built_zeroJ ?_)
    | (refine wpList_box_arr rfl 28 _ rfl zeroJournal rfl ?_; have hz := Blk.new w zeroJournal 28; have hb := (Below.refl w.heap.size w).alloc (Nat.le_refl _) (.cells zeroJournal 28); have hlt := World.size_alloc w (.cells zeroJournal 28); obtain ⟨w1, hw1⟩ : ∃ x, x = w.alloc (.cells zeroJournal 28) := ⟨_, rfl⟩; rw [← hw1] at hz hb hlt ⊢; have HZ := Lib.hid hz; have HB := Lib.hid hb; have HL := Lib.hid hlt; clear hw1 hz hb hlt))
  have hk2 := Blk.new w1 #[Value.pointer none, Value.pointer (some ⟨w.heap.size, 0, none⟩)] 24
  have hb2 := (Below.refl w1.heap.size w1).alloc (Nat.le_refl _) (Obj.cells #[Value.pointer none, Value.pointer (some ⟨w.heap.size, 0, none⟩)] 24)
  have hz2 := HZ.out.below hb2 HZ.out.lt
  obtain ⟨w2, hw2⟩ : ∃ x, x = w1.alloc (Obj.cells #[Value.pointer none, Value.pointer (some ⟨w.heap.size, 0, none⟩)] 24) := ⟨_, rfl⟩
  rw [← hw2] at hk2 hb2 hz2 ⊢
  have HC := Lib.hid (fun (k : Nat) W (hb : Below w2.heap.size w2 W) => show W.cell? ⟨w1.heap.size, k, none⟩ = [Value.pointer none, Value.pointer (some ⟨w.heap.size, 0, none⟩)][k]? from (hk2.below hb hk2.lt).cell k)
  have HP := Lib.hid (fun W (hb : Below w2.heap.size w2 W) => hz2.below hb hz2.lt)
  have HW := Lib.hid (HB.out.trans (hb2.mono HB.out.size))
  clear hw2 hk2 hb2 hz2 HZ HB HL
  generalize w1.heap.size = g1 at *
  have HGZ := Lib.hid (fun W (hb : Below w2.heap.size w2 W) => GZ.out.below (HW.out.trans (hb.mono HW.out.size)))
  go_loopw [4] (fun i wr => ∃ k : Nat, i = .int .i64 k ∧ k ≤ 2 ∧ Hid (Below w2.heap.size w2 wr)) (fun i _ => 2 - (intOf i).toNat)
  case atStart => exact ⟨0, rfl, by omega, Lib.hid (Below.refl _ _)⟩
  case round =>
    obtain ⟨k, rfl, hk, S⟩ := hrel
    by_cases hlt : k < 2
    · obtain ⟨p, hp, hpz⟩ : ∃ p : Option Addr, (∀ W, Below w2.heap.size w2 W → W.cell? ⟨g1, k, none⟩ = some (.pointer p)) ∧ (∀ W, Below w2.heap.size w2 W → NoJournal p W) := by
        have hk2 : k = 0 ∨ k = 1 := by omega
        rcases hk2 with rfl | rfl
        · exact ⟨none, fun W hb => HC.out 0 W hb, fun W hb a ha => by cases ha⟩
        · exact ⟨some ⟨w.heap.size, 0, none⟩, fun W hb => HC.out 1 W hb, fun W hb a ha => by cases ha; exact ⟨_, rfl, HP.out W hb⟩⟩
      have HPZ := Lib.hid hpz
      have c0 := hp wr S.out
      have i1 : (0 : Int) ≤ (k : Int) := by omega
      have i2 : (k : Int) < 2 := by omega
      clear hp hpz
      go_wp2_with fail
      refine (Z.append p zs n q c wr (HPZ.out wr S.out) HN.out (HGZ.out wr S.out)).mono ?_
      rintro e W3 ⟨rfl, hb⟩
      have S3 := Lib.hid (S.out.trans (hb.mono S.out.size))
      clear hb c0
      go_wp2_with fail
      refine (Z.sync p W3 (HPZ.out W3 S3.out)).mono ?_
      rintro e W4 ⟨rfl, hb⟩
      have S4 := Lib.hid (S3.out.trans (hb.mono S3.out.size))
      clear hb S3
      go_wp2_with fail
      have hB4 := (Below.refl W4.heap.size W4).alloc (Nat.le_refl _) (Obj.cells #[.slice q n c] 22)
      have R4 := Lib.hid (recs_one W4 zs n q c HN.out (HGZ.out W4 S4.out))
      have S4b := Lib.hid (S4.out.trans (hB4.mono S4.out.size))
      clear hB4
      refine (Z.rewrite p [zs] _ 1 1 _ (HPZ.out _ S4b.out) R4.out).mono ?_
      rintro e W5 ⟨rfl, hb⟩
      have S5 := Lib.hid (S4b.out.trans (hb.mono S4b.out.size))
      clear hb S4 S4b R4
      go_wp2_with fail
      refine (Z.all p W5 (HPZ.out W5 S5.out)).mono ?_
      rintro e W6 ⟨q6, c6, rfl, hb⟩
      have S6 := Lib.hid (S5.out.trans (hb.mono S5.out.size))
      clear hb S5
      go_wp2_with fail
      refine (Z.len p W6 (HPZ.out W6 S6.out)).mono ?_
      rintro e W7 ⟨rfl, hb⟩
      have S7 := Lib.hid (S6.out.trans (hb.mono S6.out.size))
      clear hb S6
      go_wp2_with fail
      refine (Z.firm p W7 (HPZ.out W7 S7.out)).mono ?_
      rintro e W8 ⟨rfl, hb⟩
      have S8 := Lib.hid (S7.out.trans (hb.mono S7.out.size))
      clear hb S7
      go_wp2_with fail
      go_roundw
      case rel => exact ⟨k + 1, by go_num, by omega, S8⟩
      case measure => simp [intOf]; omega
    · obtain rfl : k = 2 := by omega
      have BW := Lib.hid (HW.out.trans (S.out.mono HW.out.size))
      clear HC HP HGZ S HW
      go_wp2_with fail
      refine (Z.open_ none wr (fun a ha => by cases ha)).mono ?_
      rintro e W3 ⟨rfl, hb⟩
      have B3 := Lib.hid (BW.out.trans (hb.mono BW.out.size))
      clear hb BW
      go_wp2_with (first
        | (refine wpList_build' rfl 45 _ rfl zeroDisk8 built_zeroD ?_)
        | (refine wpList_box_arr rfl 45 _ rfl zeroDisk8 rfl ?_; have hz := Blk.new W3 zeroDisk8 45; have hb := (Below.refl W3.heap.size W3).alloc (Nat.le_refl _) (.cells zeroDisk8 45); obtain ⟨W4, hw4⟩ : ∃ x, x = W3.alloc (.cells zeroDisk8 45) := ⟨_, rfl⟩; rw [← hw4] at hz hb ⊢; have HZ := Lib.hid hz; have HB := Lib.hid (B3.out.trans (hb.mono B3.out.size)); clear hw4 hz hb))
      refine (Z.open_ _ W4 (fun a ha => by cases ha; exact ⟨_, rfl, HZ.out⟩)).mono ?_
      rintro e W5 ⟨rfl, hb⟩
      have B5 := Lib.hid (HB.out.trans (hb.mono HB.out.size))
      clear hb HB HZ B3
      go_wp2_with fail
      refine (awake_any D F W5).mono ?_
      rintro e W6 ⟨rfl, hb⟩
      have B6 := Lib.hid (B5.out.trans (hb.mono B5.out.size))
      clear hb
      go_wp2_with fail
      go_ret
      exact ⟨rfl, B6.out⟩
end
section
set_option linter.unusedSimpArgs false
set_option linter.unusedVariables false
variable {P : Program}
theorem run_app_at (w : World) (B : Nat) (t ty e : TypeId) (i : TypeInfo) (z : Value) (by_ : Nat) (ht : P.underlying t = some (.slice e)) (hi : P.info? e = some i) (hz : i.zero = some z) (h1s : i.size = 1) (hby : i.bytes = by_) (hzs : z.cells.size = 1)
    (v : Value) (n : Nat) (xs : List Value) (hown : w.ownsRow B e 1 v n xs)
    (ad : Addr) (m c : Nat) (news : List Value) (hl : news.length = m) (hnews : ∀ j u, news[j]? = some u → w.cell? (ad.add j) = some u) (h1 : ∀ u ∈ news, u.oneCell' = true)
    (hmax : n + m ≤ maxLen) (hbytes : (n + m) * by_ ≤ 140737488355328) (hB : B ≤ w.heap.size) :
    ∃ v' w', (Builtin.append_ #[t, t] ty #[v, .slice (some ad) m c]).run P w = .ok v' w' ∧ w'.ownsRow B e 1 v' (n + m) (xs ++ news) ∧ w.grownBy w' v.ownBlock ∧ ∀ g, v'.ownBlock = some g → v.ownBlock = some g ∨ w.heap.size ≤ g := by
  by_cases hm : m = 0
  · obtain ⟨v', w', hr, h2, h3, _⟩ := run_append_own (P := P) w B t ty e i z 1 by_ ht hi hz h1s hby hzs (by decide) v n xs hown ad m c news (by omega) hnews h1 hmax hbytes hB
    refine ⟨v', w', hr, h2, h3, ?_⟩
    subst hm
    have hn : news = [] := List.eq_nil_of_length_eq_zero hl
    subst hn
    rcases hown.2 with ⟨rfl, rfl⟩ | ⟨g, cap, cur, rfl, hbg, hg, hnc, hcm, hcs, htake⟩
    · have hr' : (Builtin.append_ #[t, t] ty #[.slice none 0 0, .slice (some ad) 0 c]).run P w = .ok (.slice none 0 0) w := by
        simp [Builtin.append_, run_underlying ht, sizeOf, typeInfo, hi, Builtin.lenOf, Builtin.firstCells, loadCells, loadCellsFrom]
      rw [hr'] at hr
      cases hr
      intro g hg; cases hg
    · have hfit : n * i.size + ([] : List Value).length ≤ cur.size := by rw [h1s, hcs]; simp; omega
      have hr' := run_append_room (P := P) w t ty e i ht hi g n cap cur hg ad 0 c [] (by simp) hnews h1 (by omega) hfit
      rw [hr'] at hr
      cases hr
      intro g' hg'; exact .inl hg'
  · obtain ⟨g, cap, w', hr, h2, h3, h4, h5⟩ := run_append_lies (P := P) w t ty B e i z 1 by_ ht hi hz h1s hby hzs (by decide) v n xs hown ad m c news (by omega) hnews h1 (by omega) hmax hbytes hB _ rfl
    refine ⟨_, w', hr, h2, h3, fun g' hg' => ?_⟩
    cases hg'
    rcases h4 with h | h
    · exact .inl h
    · exact .inr (by show w.heap.size ≤ g; omega)
variable {ops : Array Oper} {rest : List Oper} {o : Oper} {a : Act} {w : World} {Q : Exit → Act → World → Prop} {K : Act → World → Prop} {E : Prop}
theorem wp_app_at (s x : Operand) (t : TypeId) (ho : o.op = .call { callee := .builtin .append, args := #[s, x], argTypes := #[t, t] })
    (B : Nat) (e : TypeId) {z : Value} {by_ : Nat} (ht : P.underlying t = some (.slice e)) (hi : (P.info? e).map (fun i => (i.zero, i.size, i.bytes)) = some (some z, 1, by_)) (hz : z.cells.size = 1)
    (v : Value) (n : Nat) (xs : List Value) (hs : a.eval s = v) (hown : w.ownsRow B e 1 v n xs)
    (p : Option Addr) (m c : Nat) (news : List Value) (hx : a.eval x = .slice p m c) (hA : At w p news) (hl : news.length = m) (hn : p = none → c = 0) (hmc : m ≤ c) (h1 : ∀ u ∈ news, u.oneCell' = true)
    (hbytes : (n + m) * by_ ≤ 140737488355328) (hmax : n + m ≤ maxLen) (hB : B ≤ w.heap.size)
    (h : ∀ v' w', w'.ownsRow B e 1 v' (n + m) (xs ++ news) → w.grownBy w' v.ownBlock → (∀ g, v'.ownBlock = some g → v.ownBlock = some g ∨ w.heap.size ≤ g) → K (a.put o.dst v') w') : o.wp P a w K Q := by
  obtain ⟨i, hi, hz0, hz1, hz2⟩ := info_parts hi
  cases p with
  | none =>
    have hc := hn rfl
    have hm : m = 0 := by omega
    subst hc hm
    have hnews : news = [] := List.eq_nil_of_length_eq_zero hl
    subst hnews
    have hrun := run_append_owned_none (P := P) (w := w) B t o.type e i 1 ht hi v n xs hown
    unfold Oper.wp
    simp [execOp, ho, resolve, invoke, builtin, hs, hx, hrun, Result.andThen]
    exact h v w (by simpa using hown) ⟨rfl, rfl, rfl, Nat.le_refl _, fun _ _ _ => rfl⟩ (fun g hg => .inl hg)
  | some ad =>
    obtain ⟨v', w', hr, h2, h3, h4⟩ := run_app_at (P := P) w B t o.type e i z by_ ht hi hz0 hz1 hz2 hz v n xs hown ad m c news hl (by
      intro j u hj
      rcases hA with hA | ⟨b, off, hA, hc⟩
      · subst hA; simp at hj
      · cases hA; rw [Addr.add_mid]; exact hc j u hj) h1 hmax hbytes hB
    unfold Oper.wp
    simp [execOp, ho, resolve, invoke, builtin, hs, hx, hr, Result.andThen]
    exact h v' w' h2 h3 h4
theorem wpList_app_at (hgd : o.guard = none) (s x : Operand) (t : TypeId) (ho : o.op = .call { callee := .builtin .append, args := #[s, x], argTypes := #[t, t] })
    (B : Nat) (e : TypeId) {z : Value} {by_ : Nat} (ht : P.underlying t = some (.slice e)) (hi : (P.info? e).map (fun i => (i.zero, i.size, i.bytes)) = some (some z, 1, by_)) (hz : z.cells.size = 1)
    (v : Value) (n : Nat) (xs : List Value) (hs : a.eval s = v) (hown : w.ownsRow B e 1 v n xs)
    (p : Option Addr) (m c : Nat) (news : List Value) (hx : a.eval x = .slice p m c) (hA : At w p news) (hl : news.length = m) (hn : p = none → c = 0) (hmc : m ≤ c) (h1 : ∀ u ∈ news, u.oneCell' = true)
    (hbytes : (n + m) * by_ ≤ 140737488355328) (hmax : n + m ≤ maxLen) (hB : B ≤ w.heap.size)
    (h : ∀ v' w', w'.ownsRow B e 1 v' (n + m) (xs ++ news) → w.grownBy w' v.ownBlock → (∀ g, v'.ownBlock = some g → v.ownBlock = some g ∨ w.heap.size ≤ g) → wpList P ops Q rest (a.put o.dst v') w') : wpList P ops Q (o :: rest) a w :=
  wpList_plain hgd fun _ hK => wp_app_at s x t ho B e ht hi hz v n xs hs hown p m c news hx hA hl hn hmc h1 hbytes hmax hB fun v' w' h1 h2 h3 => hK _ _ (h v' w' h1 h2 h3)
theorem step_app_at (hgd : o.guard = none) (s x : Operand) (t : TypeId) (ho : o.op = .call { callee := .builtin .append, args := #[s, x], argTypes := #[t, t] })
    (B : Nat) (e : TypeId) {z : Value} {by_ : Nat} (ht : P.underlying t = some (.slice e)) (hi : (P.info? e).map (fun i => (i.zero, i.size, i.bytes)) = some (some z, 1, by_)) (hz : z.cells.size = 1)
    (v : Value) (n : Nat) (xs : List Value) (hs : a.eval s = v) (hown : w.ownsRow B e 1 v n xs)
    (p : Option Addr) (m c : Nat) (news : List Value) (hx : a.eval x = .slice p m c) (hA : At w p news) (hl : news.length = m) (hn : p = none → c = 0) (hmc : m ≤ c) (h1 : ∀ u ∈ news, u.oneCell' = true)
    (hbytes : (n + m) * by_ ≤ 140737488355328) (hmax : n + m ≤ maxLen) (hB : B ≤ w.heap.size)
    (h : ∀ v' w', w'.ownsRow B e 1 v' (n + m) (xs ++ news) → w.grownBy w' v.ownBlock → (∀ g, v'.ownBlock = some g → v.ownBlock = some g ∨ w.heap.size ≤ g) → K (a.put o.dst v') w') :
    if Region.wanted o (yielded ops a.tmps) = true then Oper.wp P o a w K Q else E := by
  have hw : Region.wanted o (yielded ops a.tmps) = true := by simp [Region.wanted, hgd]
  rw [if_pos hw]
  exact wp_app_at s x t ho B e ht hi hz v n xs hs hown p m c news hx hA hl hn hmc h1 hbytes hmax hB h
end
end Go.Proofs.Ythopfpfmliookaa
