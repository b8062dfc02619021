/-
  The reference of fields: count and field by the plain words; Put.
  The reference of the wire package: the bytes within a note's frame (written by mkrwh15.py).
-/
import Derived.Test.YtbogjfmefkhglaaGreatP12
import Derived.Test.YtbogjfmefkhglaaGreatP10
import Derived.Test.YtbogjfmefkhglaaGreatP9
namespace Go.Proofs.YtbogjfmefkhglaaGreat
section
set_option linter.unusedSimpArgs false
set_option linter.unusedVariables false
open Go.RowKit Sha
open Fld (Itm)
abbrev WS := (List Int × List Itm) × Int
/-- The reference's writer under way, by the plain words. -/
def RS (w0 : World) (ga : Nat) (p : Option Addr) (n c : Nat) (l : List Itm) (s : WS) (w : World) : Prop :=
  ∃ k v out, RW w0 ga (.slice p n c) k v out s.2 w ∧ (s.2 = 0 → out = s.1.1 ∧ l.drop k = s.1.2 ∧ k ≤ n ∧ out.length + 5000 * s.1.2.length ≤ 999000000)
theorem RS.err {w0 w : World} {ga : Nat} {p : Option Addr} {n c : Nat} {l : List Itm} {k : Nat} {v : Value} {out : List Int} {er : Int} {s : WS} (h : RW w0 ga (.slice p n c) k v out er w) (he : er ≠ 0) (hs : s.2 = er) : RS w0 ga p n c l s w :=
  ⟨k, v, out, by rw [hs]; exact h, fun h0 => absurd (hs.symm.trans h0) he⟩
theorem drop_step {l r : List Itm} {k : Nat} {x : Itm} (h : l.drop k = x :: r) : ∃ hk : k < l.length, l[k] = x ∧ l.drop (k + 1) = r := by
  have hk : k < l.length := by
    rcases Nat.lt_or_ge k l.length with hk | hk
    · exact hk
    · rw [List.drop_eq_nil_of_le hk] at h; cases h
  rw [List.drop_eq_getElem_cons hk] at h
  exact ⟨hk, (List.cons.inj h).1, (List.cons.inj h).2⟩
/-- What next tells behind an error, or behind the last item. -/
theorem rnext_no {w0 w : World} {ga : Nat} {p : Option Addr} {n c : Nat} {l : List Itm} {s : WS} (ht : Told w0 p n c l) (h : RS w0 ga p n c l s w) (hs : s.2 ≠ 0 ∨ s.1.2 = []) :
    ∃ k v out er, er ≠ 0 ∧ er = (if s.2 = 0 then 2 else s.2) ∧ Calls Tryz.prog 122 #[.pointer (some ⟨ga, 0, none⟩)] w (NextDone w0 ga (.slice p n c) v out ⟨0, [], Fld.zero32⟩ k er) := by
  obtain ⟨k, v, out, hr, hf⟩ := h
  by_cases h0 : s.2 = 0
  · obtain ⟨rfl, hd, hk, _⟩ := hf h0
    have hnil : s.1.2 = [] := by rcases hs with h | h; exact absurd h0 h; exact h
    rw [hnil, List.drop_eq_nil_iff] at hd
    rw [h0] at hr
    exact ⟨k, v, _, 2, by omega, by rw [if_pos h0], rnext_end w0 ga p n c v _ k w hr (by rw [ht.len]; exact hd)⟩
  · exact ⟨k, v, out, s.2, h0, by rw [if_neg h0], rnext_err w0 ga p n c v out k s.2 w hr h0⟩
/-- What next tells where there is an item. -/
theorem rnext_yes {w0 w : World} {ga : Nat} {p : Option Addr} {n c : Nat} {l : List Itm} {o : List Int} {x : Itm} {r : List Itm} (ht : Told w0 p n c l) (h : RS w0 ga p n c l ((o, x :: r), 0) w) :
    ∃ k v, k + 1 ≤ n ∧ l.drop (k + 1) = r ∧ x.ok ∧ o.length + 5000 * (r.length + 1) ≤ 999000000 ∧ Calls Tryz.prog 122 #[.pointer (some ⟨ga, 0, none⟩)] w (NextDone w0 ga (.slice p n c) v o x (k + 1) 0) := by
  obtain ⟨k, v, out, hr, hf⟩ := h
  obtain ⟨h1, hd, hk, hsm⟩ := hf rfl
  simp only at h1 hd hsm hr
  subst h1
  obtain ⟨hlt, hx, hd'⟩ := drop_step hd
  refine ⟨k, v, by have := ht.len; omega, hd', hx ▸ ht.items.ok _ (List.getElem_mem hlt), by simpa using hsm, ?_⟩
  rw [← hx]
  exact rnext_ok w0 ga p n c l ht v out k w hr hlt
theorem stick_0 (c : Int) (st : List Int × List Itm) : Fld.stick Fld.putS c (st, 0) = ((Fld.putS c st).1, (Fld.putS c st).2.2) := by unfold Fld.stick; rw [if_pos rfl]
theorem stick_er {c : Int} {s : WS} (hs : s.2 ≠ 0 ∨ s.1.2 = []) : (Fld.stick Fld.putS c s).2 = if s.2 = 0 then 2 else s.2 := by
  obtain ⟨⟨o, r⟩, e⟩ := s
  by_cases h0 : e = 0
  · subst h0
    have : r = [] := by rcases hs with h | h; exact absurd rfl h; exact h
    subst this
    rw [stick_0, if_pos rfl]; rfl
  · unfold Fld.stick; rw [if_neg h0, if_neg h0]
theorem stick_no {c : Int} {o : List Int} {x : Itm} {r : List Itm} (h : Fld.okFor c x = false) : (Fld.stick Fld.putS c ((o, x :: r), 0)).2 = 2 := by rw [stick_0, putS_no h]
theorem stick_bd {c : Int} {o : List Int} {x : Itm} {r : List Itm} (h : Fld.okFor c x = true) (hb : Fld.bound c x ≠ 0) : (Fld.stick Fld.putS c ((o, x :: r), 0)).2 = Fld.bound c x := by rw [stick_0, putS_bd h hb]
theorem stick_yes {c : Int} {o : List Int} {x : Itm} {r : List Itm} (h : Fld.okFor c x = true) (hb : Fld.bound c x = 0) : Fld.stick Fld.putS c ((o, x :: r), 0) = ((o ++ Fld.enc c x, r), 0) := by rw [stick_0, putS_yes h hb]
/-- How many count tells. -/
def cntN (c : Int) (s : WS) : Int := if s.2 = 0 then (Fld.putS c s.1).2.1 else 0
theorem cntN_no {c : Int} {s : WS} (hs : s.2 ≠ 0 ∨ s.1.2 = []) : cntN c s = 0 := by
  obtain ⟨⟨o, r⟩, e⟩ := s
  unfold cntN
  split
  · rename_i h0
    have : r = [] := by rcases hs with h | h; exact absurd h0 h; exact h
    subst this; rfl
  · rfl
theorem enc_small {c : Int} {o : List Int} {x : Itm} {r : List Itm} (hx : x.ok) (ho : Fld.okFor c x = true) (hb : Fld.bound c x = 0) (hsm : o.length + 5000 * (r.length + 1) ≤ 999000000) : (o ++ Fld.enc c x).length + 5000 * r.length ≤ 999000000 := by
  have := Fld.enc_len c x hx ho hb
  rw [List.length_append]; omega
theorem RS.yes {w0 w : World} {ga : Nat} {p : Option Addr} {n cp : Nat} {l : List Itm} {k : Nat} {v : Value} {o : List Int} {c : Int} {x : Itm} {r : List Itm} (h : RW w0 ga (.slice p n cp) (k + 1) v (o ++ Fld.enc c x) 0 w) (hk : k + 1 ≤ n) (hd : l.drop (k + 1) = r) (hx : x.ok) (hsm : o.length + 5000 * (r.length + 1) ≤ 999000000) (ho : Fld.okFor c x = true) (hb : Fld.bound c x = 0) :
    RS w0 ga p n cp l (Fld.stick Fld.putS c ((o, x :: r), 0)) w := by
  rw [stick_yes ho hb]
  exact ⟨k + 1, v, _, h, fun _ => ⟨rfl, hd, hk, enc_small hx ho hb hsm⟩⟩
theorem rcount_any {w0 w : World} {ga : Nat} {p : Option Addr} {n cp : Nat} {l : List Itm} {s : WS} (ht : Told w0 p n cp l) (h : RS w0 ga p n cp l s w) (c most : Int) (hc : (c = 110 ∧ most = 4611686018427387903) ∨ (c = 40 ∧ most = 4000)) :
    Calls Tryz.prog 89 #[.pointer (some ⟨ga, 0, none⟩), .int .i64 most] w fun e w' => e = .returned (.int .i64 (cntN c s)) ∧ RS w0 ga p n cp l (Fld.stick Fld.putS c s) w' := by
  have hm0 : 0 ≤ most := by omega
  have c98 : c ≠ 98 := by omega
  have c100 : c ≠ 100 := by omega
  by_cases hs : s.2 ≠ 0 ∨ s.1.2 = []
  · obtain ⟨k, v, out, er, he, hee, hn⟩ := rnext_no ht h hs
    refine (rcount_err w0 ga _ v out k er he most hm0 w hn).mono ?_
    rintro e w' ⟨rfl, v', hr⟩
    exact ⟨by rw [cntN_no hs], RS.err hr he (by rw [stick_er hs, hee])⟩
  · obtain ⟨⟨o, r⟩, e⟩ := s
    obtain ⟨h0, hne⟩ := not_or.1 hs
    have h0 : e = 0 := by simpa using h0
    subst h0
    cases r with
    | nil => exact absurd rfl hne
    | cons x r =>
      obtain ⟨k, v, hk, hd, hx, hsm, hn⟩ := rnext_yes ht h
      have hcnt : cntN c ((o, x :: r), 0) = (Fld.putS c (o, x :: r)).2.1 := by unfold cntN; rw [if_pos rfl]
      by_cases hok : Fld.okFor c x = true
      · obtain ⟨hB, hD⟩ := Fld.okFor_n c98 c100 hok
        have hbd : Fld.bound c x = if x.N < 0 ∨ 4611686018427387903 < x.N then 5 else if most < x.N then 3 else 0 := by
          unfold Fld.bound
          rw [hB]
          rcases hc with ⟨rfl, rfl⟩ | ⟨rfl, rfl⟩
          · split
            · rfl
            · rename_i h1; rw [if_neg (by simp), if_neg (by omega)]
          · split
            · rfl
            · simp
        by_cases h5 : x.N < 0 ∨ 4611686018427387903 < x.N
        · rw [if_pos h5] at hbd
          have hb0 : Fld.bound c x ≠ 0 := by rw [hbd]; omega
          refine (rcount_r5 w0 ga _ v o (k + 1) x hx most hm0 w hn hB hD h5).mono ?_
          rintro e w' ⟨rfl, v', hr⟩
          exact ⟨by rw [hcnt, putS_bd hok hb0], RS.err hr (by omega) (by rw [stick_bd hok hb0, hbd])⟩
        · rw [if_neg h5] at hbd
          by_cases h3 : most < x.N
          · rw [if_pos h3] at hbd
            have hb0 : Fld.bound c x ≠ 0 := by rw [hbd]; omega
            refine (rcount_r3 w0 ga _ v o (k + 1) x hx most hm0 w hn hB hD (by omega) (by omega) h3).mono ?_
            rintro e w' ⟨rfl, v', hr⟩
            exact ⟨by rw [hcnt, putS_bd hok hb0], RS.err hr (by omega) (by rw [stick_bd hok hb0, hbd])⟩
          · rw [if_neg h3] at hbd
            refine (rcount_ok w0 ga _ v o (k + 1) x hx most w hn hB hD (by omega) (by omega) (by omega) (by omega)).mono ?_
            rintro e w' ⟨rfl, v', hr⟩
            refine ⟨by rw [hcnt, putS_yes hok hbd], RS.yes (v := v') (c := c) ?_ hk hd hx hsm hok hbd⟩
            rw [show Fld.enc c x = Fld.num x.N.toNat by unfold Fld.enc; rw [if_neg c98, if_neg c100]]
            exact hr
      · have hok' : Fld.okFor c x = false := by simpa using hok
        by_cases hB : x.B = []
        · have hD : x.D ≠ Fld.zero32 := fun hD => hok (by unfold Fld.okFor; rw [if_neg c98, if_neg c100, hB, hD]; simp)
          refine (rcount_d w0 ga _ v o (k + 1) x hx most hm0 w hn hB hD).mono ?_
          rintro e w' ⟨rfl, v', hr⟩
          exact ⟨by rw [hcnt, putS_no hok'], RS.err hr (by omega) (stick_no hok')⟩
        · refine (rcount_b w0 ga _ v o (k + 1) x hx most hm0 w hn hB).mono ?_
          rintro e w' ⟨rfl, v', hr⟩
          exact ⟨by rw [hcnt, putS_no hok'], RS.err hr (by omega) (stick_no hok')⟩
set_option maxRecDepth 100000 in
set_option maxHeartbeats 1000000 in
theorem rfield_n {w0 w : World} {ga : Nat} {p : Option Addr} {n cp : Nat} {l : List Itm} {s : WS} (ht : Told w0 p n cp l) (h : RS w0 ga p n cp l s w) :
    Calls Tryz.prog 88 #[.pointer (some ⟨ga, 0, none⟩), .int .u8 110] w fun e w' => e = .returned (.tuple #[]) ∧ RS w0 ga p n cp l (Fld.stick Fld.putS 110 s) w' := by
  have HC := Lib.hid (rcount_any ht h 110 4611686018427387903 (Or.inl ⟨rfl, rfl⟩))
  clear h ht
  go_enter Tryz.func88, Tryz.ntmps88
  go_wp2_with (go_at_call 89; refine HC.out.mono ?_; rintro e w1 ⟨rfl, h1⟩)
  exact bodyPost_ret (results_none rfl _ _ _) rfl ⟨rfl, h1⟩
theorem rfield_98 {w0 w : World} {ga : Nat} {p : Option Addr} {n cp : Nat} {l : List Itm} {s : WS} (ht : Told w0 p n cp l) (h : RS w0 ga p n cp l s w) :
    Calls Tryz.prog 88 #[.pointer (some ⟨ga, 0, none⟩), .int .u8 98] w fun e w' => e = .returned (.tuple #[]) ∧ RS w0 ga p n cp l (Fld.stick Fld.putS 98 s) w' := by
  by_cases hs : s.2 ≠ 0 ∨ s.1.2 = []
  · obtain ⟨k, v, out, er, he, hee, hn⟩ := rnext_no ht h hs
    refine (rfield_err_98 w0 ga _ v out k er he w hn).mono ?_
    rintro e w' ⟨rfl, v', hr⟩
    exact ⟨rfl, RS.err hr he (by rw [stick_er hs, hee])⟩
  · obtain ⟨⟨o, r⟩, e⟩ := s
    obtain ⟨h0, hne⟩ := not_or.1 hs
    have h0 : e = 0 := by simpa using h0
    subst h0
    cases r with
    | nil => exact absurd rfl hne
    | cons x r =>
      obtain ⟨k, v, hk, hd, hx, hsm, hn⟩ := rnext_yes ht h
      by_cases hN : x.N = 0
      · by_cases hD : x.D = Fld.zero32
        · have hok : Fld.okFor 98 x = true := by rw [okFor_98, hN, hD]; simp
          have hbd : Fld.bound 98 x = if 4000 < x.B.length then 3 else 0 := by unfold Fld.bound; rw [hN, if_neg (by omega)]; simp
          by_cases h3 : 4000 < x.B.length
          · rw [if_pos h3] at hbd
            have hb0 : Fld.bound 98 x ≠ 0 := by rw [hbd]; omega
            refine (rfield_long_98 w0 ga _ v o (k + 1) x hx w hn hN hD h3).mono ?_
            rintro e w' ⟨rfl, v', hr⟩
            exact ⟨rfl, RS.err hr (by omega) (by rw [stick_bd hok hb0, hbd])⟩
          · rw [if_neg h3] at hbd
            refine (rfield_b w0 ga _ v o (k + 1) x hx w hn hN hD (by omega) (by omega)).mono ?_
            rintro e w' ⟨rfl, v', hr⟩
            refine ⟨rfl, RS.yes (v := v') (c := 98) ?_ hk hd hx hsm hok hbd⟩
            rw [show Fld.enc 98 x = Fld.num x.B.length ++ x.B by unfold Fld.enc; rw [if_pos rfl], ← List.append_assoc]
            exact hr
        · have hok' : Fld.okFor 98 x = false := by rw [okFor_98]; simp [hD]
          refine (rfield_id_98 w0 ga _ v o (k + 1) x hx w hn hN hD).mono ?_
          rintro e w' ⟨rfl, v', hr⟩
          exact ⟨rfl, RS.err hr (by omega) (stick_no hok')⟩
      · have hok' : Fld.okFor 98 x = false := by rw [okFor_98]; simp [hN]
        refine (rfield_n_98 w0 ga _ v o (k + 1) x hx w hn hN).mono ?_
        rintro e w' ⟨rfl, v', hr⟩
        exact ⟨rfl, RS.err hr (by omega) (stick_no hok')⟩
theorem rfield_100 {w0 w : World} {ga : Nat} {p : Option Addr} {n cp : Nat} {l : List Itm} {s : WS} (ht : Told w0 p n cp l) (h : RS w0 ga p n cp l s w) :
    Calls Tryz.prog 88 #[.pointer (some ⟨ga, 0, none⟩), .int .u8 100] w fun e w' => e = .returned (.tuple #[]) ∧ RS w0 ga p n cp l (Fld.stick Fld.putS 100 s) w' := by
  by_cases hs : s.2 ≠ 0 ∨ s.1.2 = []
  · obtain ⟨k, v, out, er, he, hee, hn⟩ := rnext_no ht h hs
    refine (rfield_err_100 w0 ga _ v out k er he w hn).mono ?_
    rintro e w' ⟨rfl, v', hr⟩
    exact ⟨rfl, RS.err hr he (by rw [stick_er hs, hee])⟩
  · obtain ⟨⟨o, r⟩, e⟩ := s
    obtain ⟨h0, hne⟩ := not_or.1 hs
    have h0 : e = 0 := by simpa using h0
    subst h0
    cases r with
    | nil => exact absurd rfl hne
    | cons x r =>
      obtain ⟨k, v, hk, hd, hx, hsm, hn⟩ := rnext_yes ht h
      by_cases hN : x.N = 0
      · by_cases hB : x.B = []
        · have hok : Fld.okFor 100 x = true := by rw [okFor_100, hN, hB]; simp
          have hbd : Fld.bound 100 x = 0 := by unfold Fld.bound; rw [hN, hB, if_neg (by omega)]; simp
          refine (rfield_d w0 ga _ v o (k + 1) x hx w hn hN hB (by omega)).mono ?_
          rintro e w' ⟨rfl, v', hr⟩
          refine ⟨rfl, RS.yes (v := v') (c := 100) ?_ hk hd hx hsm hok hbd⟩
          rw [show Fld.enc 100 x = x.D by unfold Fld.enc; rw [if_neg (by omega), if_pos rfl]]
          exact hr
        · have hok' : Fld.okFor 100 x = false := by rw [okFor_100]; simp [hB]
          refine (rfield_by_100 w0 ga _ v o (k + 1) x hx w hn hN hB).mono ?_
          rintro e w' ⟨rfl, v', hr⟩
          exact ⟨rfl, RS.err hr (by omega) (stick_no hok')⟩
      · have hok' : Fld.okFor 100 x = false := by rw [okFor_100]; simp [hN]
        refine (rfield_n_100 w0 ga _ v o (k + 1) x hx w hn hN).mono ?_
        rintro e w' ⟨rfl, v', hr⟩
        exact ⟨rfl, RS.err hr (by omega) (stick_no hok')⟩
theorem rfield_any {w0 w : World} {ga : Nat} {p : Option Addr} {n cp : Nat} {l : List Itm} {s : WS} (ht : Told w0 p n cp l) (h : RS w0 ga p n cp l s w) (c : Int) (hc : Fld.isLet c) :
    Calls Tryz.prog 88 #[.pointer (some ⟨ga, 0, none⟩), .int .u8 c] w fun e w' => e = .returned (.tuple #[]) ∧ RS w0 ga p n cp l (Fld.stick Fld.putS c s) w' := by
  rcases hc with rfl | rfl | rfl
  · exact rfield_n ht h
  · exact rfield_98 ht h
  · exact rfield_100 ht h
/-- What is left of a shape, from a state on. -/
def walkS (r : List Int) (s : WS) : WS := if s.2 = 0 then Fld.walkL Fld.putS none 0 r s.1 else s
theorem walkS_letter {c : Int} {r : List Int} {k : Bool} (s : WS) (hc : c ≠ 40) (h : Fld.chkL r false k = true) : walkS (c :: r) s = walkS r (Fld.stick Fld.putS c s) := by
  unfold walkS Fld.stick
  by_cases h0 : s.2 = 0
  · rw [if_pos h0, if_pos h0, Fld.walkL_letter _ _ _ _ _ hc]
    split
    · exact Fld.walkL_tail _ _ _ r _ k h
    · rfl
  · rw [if_neg h0, if_neg h0, if_neg h0]
/-- A group so many times, from a state on. -/
def repS (cs : List Int) (m : Nat) (s : WS) : WS := if s.2 = 0 then Fld.rep Fld.putS cs m s.1 else s
theorem repS_err {cs : List Int} {m : Nat} {s : WS} (h : s.2 ≠ 0) : repS cs m s = s := by unfold repS; rw [if_neg h]
theorem repS_zero {cs : List Int} {s : WS} : repS cs 0 s = s := by
  unfold repS
  split
  · rename_i h; rw [Fld.rep, ← h]
  · rfl
theorem repS_succ {cs : List Int} {m : Nat} {s : WS} (h : s.2 = 0) : repS cs (m + 1) s = repS cs m (Fld.sticks Fld.putS cs s) := by
  have e : (s.1, (0 : Int)) = s := by rw [← h]
  unfold repS
  rw [if_pos h, Fld.rep_stick, e]
theorem walkS_open {cs r : List Int} {k : Bool} (s : WS) (hcs : ∀ c ∈ cs, Fld.isLet c) (h : Fld.chkL r false k = true) : walkS (40 :: (cs ++ 41 :: r)) s = walkS r (repS cs (cntN 40 s).toNat (Fld.stick Fld.putS 40 s)) := by
  unfold walkS
  by_cases h0 : s.2 = 0
  · have hcn : cntN 40 s = (Fld.putS 40 s.1).2.1 := by unfold cntN; rw [if_pos h0]
    rw [if_pos h0, Fld.walkL_open _ _ _ _ _ hcs, hcn]
    unfold repS Fld.stick
    rw [if_pos h0]
    split
    · rename_i h1
      simp only [h1, if_true]
      split
      · exact Fld.walkL_tail _ _ _ r _ k h
      · rfl
    · rename_i h1
      simp only [h1, if_false]
  · rw [if_neg h0]
    have e : Fld.stick Fld.putS 40 s = s := Fld.stick_err _ h0
    rw [e, repS_err h0, if_neg h0]
theorem cntN_pos (s : WS) : 0 ≤ cntN 40 s ∧ cntN 40 s ≤ 4000 := by
  obtain ⟨⟨o, r⟩, e⟩ := s
  unfold cntN
  split
  · cases r with
    | nil => simp [Fld.putS]
    | cons x r =>
      unfold Fld.putS
      simp only
      split
      · split
        · rename_i hb
          have := Fld.bound_zero hb
          exact ⟨this.1, this.2.2.2 rfl⟩
        · simp
      · simp
  · simp
theorem sticks_snoc (cs : List Int) (c : Int) (s : WS) : Fld.sticks Fld.putS (cs ++ [c]) s = Fld.stick Fld.putS c (Fld.sticks Fld.putS cs s) := by
  unfold Fld.sticks; rw [List.foldl_append]; rfl
theorem inner_nums {s : ByteArray} {k : Nat} {c : Int} {cs r : List Int} (h : (nums s).drop k = c :: (cs ++ 41 :: r)) : nums (s.extract (k + 1) s.size) = cs ++ 41 :: r ∧ nums ((s.extract (k + 1) s.size).extract 0 cs.length) = cs := by
  have h1 : nums (s.extract (k + 1) s.size) = cs ++ 41 :: r := by
    rw [nums_extract, ← nums_length, List.take_length, ← List.drop_drop, h]
    rfl
  refine ⟨h1, ?_⟩
  rw [nums_extract, h1]
  simp
theorem put_of_walkS (s : List Int) (l : List Itm) (h : Fld.chk s = true) : Fld.put s l = if (walkS s (([], l), 0)).2 = 0 then (if (walkS s (([], l), 0)).1.2 = [] then ((walkS s (([], l), 0)).1.1, 0) else ([], 2)) else ([], (walkS s (([], l), 0)).2) := by
  have e : walkS s (([], l), 0) = Fld.walkL Fld.putS none 0 s ([], l) := by unfold walkS; rw [if_pos rfl]
  rw [e]
  unfold Fld.put
  rw [if_pos h]
set_option maxRecDepth 100000 in
set_option maxHeartbeats 4000000 in
theorem rput_any (s : ByteArray) (hs : s.size ≤ maxLen) (l : List Itm) (p : Option Addr) (n c : Nat) (w : World) (ht : Told w p n c l) (hsm : n ≤ 100000) :
    Calls Tryz.prog 56 #[.string s, .slice p n c] w (PutDone w (Fld.put (nums s) l)) := by
  by_cases hc : Fld.chk (nums s) = true
  · have HE := Lib.hid (Fld.chkE_ok hc)
    have HC := Lib.hid (chk_len hc)
    have hsl : s.size ≤ 40 := by have := HC.out.1; rwa [nums_length] at this
    obtain ⟨R, hr⟩ : ∃ R, R = walkS (nums s) (([], l), 0) := ⟨_, rfl⟩
    have HP := Lib.hid (put_of_walkS (nums s) l hc)
    rw [← hr] at HP
    have HR := Lib.hid hr
    have HT := Lib.hid ht
    have hnm := ht.max
    have hnc := ht.le
    clear hc hr ht
    go_enter Tryz.func56, Tryz.ntmps56
    go_wp2_with (first
      | (go_at_call 75; refine (rcheck_any s w hs).mono ?_; rw [HE.out]; rintro e w1 ⟨rfl, rfl⟩))
    have hst : RS w w.heap.size p n c l (([], l), 0) (w.alloc (Obj.cells #[Value.slice p n c, Value.int IntKind.i64 0, Value.slice none 0 0, Value.int IntKind.i64 0] 131)) :=
      ⟨0, .slice none 0 0, [], ⟨by simpa using Blk.new w #[Value.slice p n c, Value.int IntKind.i64 0, Value.slice none 0 0, Value.int IntKind.i64 0] 131, Own8.nil _ _ _, Nat.le_refl _, (Below.refl _ _).alloc (Nat.le_refl _) _⟩, fun _ => ⟨rfl, rfl, by omega, by have := HT.out.len; simp; omega⟩⟩
    have HST := Lib.hid hst
    clear hst
    generalize w.alloc (Obj.cells #[Value.slice p n c, Value.int IntKind.i64 0, Value.slice none 0 0, Value.int IntKind.i64 0] 131) = wA at *
    obtain ⟨ga, hga⟩ : ∃ g, g = w.heap.size := ⟨_, rfl⟩
    rw [← hga] at HST ⊢
    clear hga
    go_loopw [7, 8, 9, 10] (fun i _ _ _ wr => ∃ (k : Nat) (st : WS) (kk : Bool), i = .int .i64 k ∧ k ≤ s.size ∧ Hid (RS w ga p n c l st wr) ∧ Hid (walkS ((nums s).drop k) st = R) ∧ Hid (Fld.chkL ((nums s).drop k) false kk = true)) (fun i _ _ _ _ => s.size - (intOf i).toNat)
    case atStart => exact ⟨0, _, false, rfl, by omega, HST, Lib.hid (by rw [List.drop_zero]; exact HR.out.symm), Lib.hid (by rw [List.drop_zero]; exact HC.out.2)⟩
    case round =>
      clear HST HR
      obtain ⟨k, st, kk, rfl, hk, HS, HW, HK⟩ := hrel
      by_cases hlt : k < s.size
      · obtain ⟨c1, hd⟩ := drop_some s k hlt
        have hby := run_letter s k c1 _ hd
        have hko := HK.out
        rw [hd] at hko
        rcases Fld.chkL_out c1 _ kk hko with ⟨hlet, hrest⟩ | ⟨rfl, cs, r', k', hr', hcs, hrest⟩
        · have h40 : (c1 == 40) = false := by rw [beq_eq_false_iff_ne]; exact (Fld.isLet_ne hlet).1
          have HF := Lib.hid (rfield_any HT.out HS.out c1 hlet)
          have HW' := Lib.hid (show walkS ((nums s).drop (k + 1)) (Fld.stick Fld.putS c1 st) = R by rw [← walkS_letter st (Fld.isLet_ne hlet).1 hrest, ← hd]; exact HW.out)
          have HK' := Lib.hid hrest
          clear hd hko hlet hrest HW HK HS
          go_wp2_with (go_at_call 88; refine HF.out.mono ?_; rintro e w2 ⟨rfl, h2⟩; have H2 := Lib.hid h2; clear h2)
          go_roundw
          case rel => exact ⟨k + 1, _, true, by go_num, by omega, H2, HW', HK'⟩
          case measure => simp [intOf]; omega
        · have hd2 : (nums s).drop k = 40 :: (cs ++ 41 :: r') := by rw [hd, hr']
          obtain ⟨hin, hinn⟩ := inner_nums hd2
          have hlen : cs.length + 2 + r'.length + k = s.size := by
            have := congrArg List.length hd2
            rw [List.length_drop, nums_length] at this
            simp at this; omega
          have hrd : (nums s).drop (k + cs.length + 2) = r' := by
            have e1 : (nums s).drop (k + 1) = cs ++ 41 :: r' := hr'
            have e2 : (nums s).drop (k + cs.length + 2) = ((nums s).drop (k + 1)).drop (cs.length + 1) := by rw [List.drop_drop]; congr 1; omega
            rw [e2, e1]; simp
          have hcp := cntN_pos st
          obtain ⟨cn, hcn⟩ : ∃ m : Nat, (m : Int) = cntN 40 st := ⟨(cntN 40 st).toNat, by omega⟩
          have hcn4 : cn ≤ 4000 := by omega
          clear hcp
          have HCT := Lib.hid (rcount_any HT.out HS.out 40 4000 (Or.inr ⟨rfl, rfl⟩))
          rw [← hcn] at HCT
          have HGR := Lib.hid (group_any (s.extract (k + 1) s.size) (by rw [ByteArray.size_extract]; unfold maxLen at *; omega) cs r' hin (fun d hd => (Fld.isLet_ne (hcs d hd)).2))
          obtain ⟨inn, hinn2⟩ : ∃ t, t = (s.extract (k + 1) s.size).extract 0 cs.length := ⟨_, rfl⟩
          rw [← hinn2] at hinn HGR
          have hisz : inn.size = cs.length := by rw [← nums_length, hinn]
          have HIN := Lib.hid hinn
          have HCS := Lib.hid hcs
          have HD := Lib.hid hrd
          have HW' := Lib.hid (show walkS r' (repS cs cn (Fld.stick Fld.putS 40 st)) = R by
            have := walkS_open st hcs hrest
            rw [← hcn, Int.toNat_natCast] at this
            rw [← this, ← hd2]; exact HW.out)
          have HK' := Lib.hid hrest
          clear hd hko hrest HW HK HS hd2 hin hinn hinn2 hrd hcs hcn hr'
          go_wp2_with (first
            | (go_at_call 77; refine (HGR.out _).mono ?_; rintro e w2 ⟨rfl, rfl⟩)
            | (go_at_call 89; refine HCT.out.mono ?_; rintro e w3 ⟨rfl, h3⟩; have H3 := Lib.hid h3; clear h3))
          obtain ⟨RR, hRR⟩ : ∃ RR, RR = repS cs cn (Fld.stick Fld.putS 40 st) := ⟨_, rfl⟩
          rw [← hRR] at HW'
          have HRR := Lib.hid hRR.symm
          clear hRR HCT HGR hby
          obtain ⟨gl, hgl⟩ : ∃ g, g = cs.length := ⟨_, rfl⟩
          rw [← hgl] at hlen hisz HD
          have HGL := Lib.hid hgl
          clear hgl
          go_loopw [9, 10] (fun nn _ wr => ∃ (m : Nat) (st2 : WS), nn = .int .i64 m ∧ m ≤ 4000 ∧ Hid (RS w ga p n c l st2 wr) ∧ Hid (repS cs m st2 = RR)) (fun nn _ _ => (intOf nn).toNat)
          case atStart => exact ⟨cn, _, rfl, hcn4, H3, HRR⟩
          case round =>
            clear H3 HRR
            obtain ⟨m, st2, rfl, hm, H2, HR2⟩ := hrel
            by_cases hm0 : m = 0
            · subst hm0
              have HE2 := Lib.hid (show st2 = RR from repS_zero.symm.trans HR2.out)
              have HS2 := Lib.hid (show RS w ga p n c l RR wr from HE2.out ▸ H2.out)
              go_wp2_with fail
              go_roundw
              case rel => exact ⟨k + gl + 2, RR, k', by go_num, by omega, HS2, Lib.hid (by rw [HD.out]; exact HW'.out), Lib.hid (by rw [HD.out]; exact HK'.out)⟩
              case measure => simp [intOf]; omega
            · have hmp : (0 : Int) < (m : Int) := by omega
              have h2 := H2.out
              obtain ⟨k0, v0, o0, hrw, _⟩ := h2
              have c3 : wr.cell? ⟨ga, 3, none⟩ = some (.int .i64 st2.2) := hrw.blk.cell 3
              clear hrw
              obtain ⟨er, her⟩ : ∃ e, e = st2.2 := ⟨_, rfl⟩
              rw [← her] at c3
              by_cases h0 : er = 0
              · subst h0
                have HE0 := Lib.hid her.symm
                clear her
                go_wp2_with fail
                go_loopw [10] (fun kk wr => ∃ (j : Nat) (st3 : WS), kk = .int .i64 j ∧ j ≤ gl ∧ Hid (RS w ga p n c l st3 wr) ∧ Hid (st3 = Fld.sticks Fld.putS (cs.take j) st2)) (fun kk _ => gl - (intOf kk).toNat)
                case atStart => exact ⟨0, st2, rfl, by omega, H2, Lib.hid (by rw [List.take_zero]; rfl)⟩
                case round =>
                  clear H2 c3
                  obtain ⟨j, st3, rfl, hj, H3, HJ⟩ := hrel
                  by_cases hlj : j < gl
                  · have hjc : j < cs.length := by rw [← HGL.out]; exact hlj
                    have hby := run_letter inn j cs[j] (cs.drop (j + 1)) (by rw [HIN.out]; exact List.drop_eq_getElem_cons hjc)
                    have HF := Lib.hid (rfield_any HT.out H3.out cs[j] (HCS.out _ (List.getElem_mem hjc)))
                    have HJ' := Lib.hid (show Fld.stick Fld.putS cs[j] st3 = Fld.sticks Fld.putS (cs.take (j + 1)) st2 by rw [List.take_succ_eq_append_getElem hjc, sticks_snoc, HJ.out])
                    obtain ⟨cj, hcj⟩ : ∃ x, x = cs[j] := ⟨_, rfl⟩
                    rw [← hcj] at hby HF HJ'
                    clear hcj hjc H3 HJ
                    go_wp2_with (go_at_call 88; refine HF.out.mono ?_; rintro e w4 ⟨rfl, h4⟩; have H4 := Lib.hid h4; clear h4)
                    go_roundw
                    case rel => exact ⟨j + 1, _, by go_num, by omega, H4, HJ'⟩
                    case measure => simp [intOf]; omega
                  · obtain rfl : j = gl := by omega
                    obtain ⟨m', rfl⟩ : ∃ m', m = m' + 1 := ⟨m - 1, by omega⟩
                    have HN2 := Lib.hid (show repS cs m' st3 = RR by rw [HJ.out, HGL.out, List.take_length, ← repS_succ HE0.out]; exact HR2.out)
                    go_wp2_with fail
                    go_roundw
                    case rel => exact ⟨m', st3, by go_num, by omega, H3, HN2⟩
                    case measure => simp [intOf]
              · have hne : (er == 0) = false := by rw [beq_eq_false_iff_ne]; exact h0
                have HE2 := Lib.hid (show st2 = RR from (repS_err (by rw [← her]; exact h0)).symm.trans HR2.out)
                have HS2 := Lib.hid (show RS w ga p n c l RR wr from HE2.out ▸ H2.out)
                clear h0 her
                go_wp2_with fail
                go_roundw
                case rel => exact ⟨k + gl + 2, RR, k', by go_num, by omega, HS2, Lib.hid (by rw [HD.out]; exact HW'.out), Lib.hid (by rw [HD.out]; exact HK'.out)⟩
                case measure => simp [intOf]; omega
      · obtain rfl : k = s.size := by omega
        have hRst : st = R := by
          have h1 := HW.out
          rw [← nums_length, List.drop_length] at h1
          rw [← h1]
          unfold walkS
          split
          · rename_i h2; rw [Fld.walkL, ← h2]
          · rfl
        subst hRst
        have h2 := HS.out
        obtain ⟨k0, v0, o0, hrw, hf⟩ := h2
        have HRW := Lib.hid hrw
        have a1 : wr.cell? ⟨ga, 1, none⟩ = some (.int .i64 k0) := hrw.blk.cell 1
        have a2 : wr.cell? ⟨ga, 2, none⟩ = some v0 := hrw.blk.cell 2
        have a3 : wr.cell? ⟨ga, 3, none⟩ = some (.int .i64 st.2) := hrw.blk.cell 3
        have HLN := Lib.hid HT.out.len
        clear hrw HW HK HS
        by_cases h0 : st.2 = 0
        · obtain ⟨rfl, hdr, hk0, _⟩ := hf h0
          have HP2 := HP
          rw [if_pos h0] at HP2
          rw [h0] at a3 HRW
          clear hf h0 HP
          by_cases hl0 : st.1.2 = []
          · rw [hl0, List.drop_eq_nil_iff, ← HLN.out] at hdr
            obtain rfl : k0 = n := by omega
            rw [if_pos hl0] at HP2
            clear hl0 hdr
            go_wp2_with fail
            go_ret2
            exact ⟨v0, by rw [HP2.out]; rfl, by rw [HP2.out]; exact HRW.out.own, HRW.out.below⟩
          · have hlt : k0 < n := by
              rcases Nat.lt_or_ge k0 n with h | h
              · exact h
              · exact absurd (hdr.symm.trans (List.drop_eq_nil_of_le (by rw [← HLN.out]; exact h))) hl0
            rw [if_neg hl0] at HP2
            clear hl0 hdr
            go_wp2_with (go_at_call 90; refine (rfails_any ga _ _ _ 0 2 wr HRW.out.blk).mono ?_; rintro e w5 ⟨rfl, rfl⟩; rw [if_pos rfl]; have hr5 := HRW.out.fail 2; generalize wr.setCell ⟨ga, 3, none⟩ (.int .i64 2) = w6 at *; have b3 : w6.cell? ⟨ga, 3, none⟩ = some (.int .i64 2) := hr5.blk.cell 3; have R5 := Lib.hid hr5; clear hr5)
            go_quiet (fail)
            go_wp2_with fail
            go_ret2
            exact ⟨.slice none 0 0, by rw [HP2.out]; rfl, by rw [HP2.out]; exact Own8.nil _ _ _, below_drewN R5.out.below _⟩
        · have HP2 := HP
          rw [if_neg h0] at HP2
          obtain ⟨er, her⟩ : ∃ e, e = st.2 := ⟨_, rfl⟩
          rw [← her] at a3 HRW HP2 h0
          have hne : (er == 0) = false := by rw [beq_eq_false_iff_ne]; exact h0
          have HNE := Lib.hid h0
          clear hf h0 HP her
          by_cases hlt : k0 < n
          all_goals
            go_wp2_with (go_at_call 90; refine (rfails_e HRW.out HNE.out 2).mono ?_; rintro e w5 ⟨rfl, rfl⟩)
            go_quiet (fail)
            go_wp2_with fail
            go_ret2
            exact ⟨.slice none 0 0, by rw [HP2.out]; rfl, by rw [HP2.out]; exact Own8.nil _ _ _, below_drewN HRW.out.below _⟩
  · have hc' : Fld.chk (nums s) = false := by simpa using hc
    have HE := Lib.hid (Fld.chkE_no hc')
    have HP := Lib.hid (put_bad (l := l) hc')
    clear hc hc'
    go_enter Tryz.func56, Tryz.ntmps56
    go_wp2_with (first
      | (go_at_call 75; refine (rcheck_any s w hs).mono ?_; rw [HE.out]; rintro e w1 ⟨rfl, rfl⟩))
    go_ret2
    exact ⟨.slice none 0 0, by rw [HP.out]; rfl, by rw [HP.out]; exact Own8.nil _ _ _, Below.refl _ _⟩
end
section
set_option linter.unusedSimpArgs false
set_option linter.unusedVariables false
open Go.RowKit Sha Nte
open Fld (Itm)
theorem Own8.weak15 {w : World} {B B' n : Nat} {e : TypeId} {v : Value} {xs : List Value} (h : Own8 w B e v n xs) (hb : B' ≤ B) : Own8 w B' e v n xs := ⟨own_weak h.row hb, h.ints⟩
/-- The bytes that the reference makes of any note, whether it may be or not. -/
def rbody (x : Not) : List Int := (Fld.put (Nte.shape x.K) (items x)).1
section
attribute [local go_sem ↓] execOp_boxNote execOp_loadInt execOp_loadNote
set_option maxRecDepth 100000 in
set_option maxHeartbeats 4000000 in
theorem rinner_any (x : Not) (h : NHd) (w : World) (hg : NGood w x h) (hf : WFew x) (hz0 : ∀ j, (headsH x ++ ((letters x.K).take j).flatMap (hdrs x h)).length ≤ 3000) :
    Calls Tryz.prog 27 #[.agg (ncells x h).toArray] w fun e w' => ∃ v, e = .returned v ∧ Own8 w' w.heap.size 5 v (rbody x).length ((rbody x).map v8) ∧ Below w.heap.size w w' := by
  obtain ⟨g, w1, r1, hg1, hl1, K1, B1⟩ := box_note w x h
  have HB1 := Lib.hid B1
  have HK1 := Lib.hid K1
  have HX := Lib.hid hg
  have HG1 := Lib.hid (hg.below B1)
  have HFW := Lib.hid hf
  have HZ := Lib.hid hz0
  have hzi : (itemsH15 x h).length ≤ 3000 := by have := hz0 (letters x.K).length; rw [List.take_length] at this; exact this
  have zs := shS_size x.K
  obtain ⟨kd, hkd⟩ : ∃ k, k = x.K := ⟨_, rfl⟩
  have HSH := Lib.hid (show ∀ w', Calls Tryz.prog 46 #[.int .i64 kd] w' fun e w'' => e = .returned (.string (shS x.K)) ∧ Below w'.heap.size w' w'' from fun w' => by rw [hkd]; exact rshape_any _ w')
  have HS := Lib.hid (show ∀ w', Below w1.heap.size w1 w' → (loadOp 3 (.pointer (some ⟨g, 0, none⟩))).run Tryz.prog w' = .ok (.value (nic kd)) w' ∧ (loadOp 32 (.pointer (some ⟨g, 0, none⟩))).run Tryz.prog w' = .ok (.value (.agg (ncells x h).toArray)) w' from fun w' hb => ⟨by rw [hkd]; exact (nblk (HK1.out.below hb HK1.out.lt) HX.out.ok.len).c0, load_note (o := 0) HX.out.ok.len (HK1.out.below hb HK1.out.lt).range⟩)
  have HIT := Lib.hid (show ∀ w', Below w1.heap.size w1 w' → Calls Tryz.prog 57 #[.agg (ncells x h).toArray] w' (fun e w'' => ∃ v, e = .returned v ∧ w''.ownsRow w'.heap.size 118 34 v (itemsH15 x h).length ((itemsH15 x h).flatMap cellsI) ∧ Below w'.heap.size w' w'') from fun w' hb => ritems_any x h w' (HG1.out.below hb) HFW.out HZ.out)
  have HTO := Lib.hid (show ∀ (B : Nat) (w' : World) (v : Value), w'.ownsRow B 118 34 v (itemsH15 x h).length ((itemsH15 x h).flatMap cellsI) → Below w1.heap.size w1 w' → ∃ p n c, v = .slice p n c ∧ Told w' p n c (items x) ∧ n ≤ 100000 from fun B w' v ho hb => by
    obtain ⟨p, c, rfl, q1, q2, q3, _, q5⟩ := nown_at ho
    refine ⟨p, _, c, rfl, ⟨by rw [← itemsH15_map x h, List.length_map], q1, by unfold maxLen at q2; exact q2, q5, itemsH15 x h, itemsH15_map x h, q3, itemsH15_good (HG1.out.below hb)⟩, by omega⟩)
  have HPU := Lib.hid (show ∀ (p : Option Addr) (n c : Nat) (w' : World), Told w' p n c (items x) → n ≤ 100000 → Calls Tryz.prog 56 #[.string (shS x.K), .slice p n c] w' (fun e w'' => ∃ v, e = .returned (.tuple #[v, .int .i64 (Fld.put (Nte.shape x.K) (items x)).2]) ∧ Own8 w'' w'.heap.size 5 v (rbody x).length ((rbody x).map v8) ∧ Below w'.heap.size w' w'') from fun p n c w' ht hn => by
    have := rput_any (shS x.K) (by unfold maxLen; omega) (items x) p n c w' ht hn
    rw [shS_nums] at this
    exact this)
  generalize (Fld.put (Nte.shape x.K) (items x)).2 = er at *
  generalize shS x.K = sh at *
  clear hkd hg hf hz0 K1 B1 hg1 hl1 HK1 HX zs
  go_enter Tryz.func27, Tryz.ntmps27
  go_wp2_with fail
  refine wp_region_held_drew (S := (fun w' => (loadOp 3 (.pointer (some ⟨g, 0, none⟩))).run Tryz.prog w' = .ok (.value (nic kd)) w' ∧ (loadOp 32 (.pointer (some ⟨g, 0, none⟩))).run Tryz.prog w' = .ok (.value (.agg (ncells x h).toArray)) w')) (by kernel_rfl) (HS.out _ (Below.refl w1.heap.size w1).drew) (fun hHeld => ?_)
  have BD := Lib.hid (Below.refl w1.heap.size w1).drew
  generalize w1.drew = wd at *
  refine take_at 0 (by kernel_rfl) (v := ?v1) (by kernel_rfl) (by kernel_rfl) (by kernel_rfl) (fun _ _ _ h => h) (by rfl) ?y1 (by assumption) ?r1
  case y1 => (intro w hSw; (try dsimp only at hSw); simp only [List.getElem_cons_succ, List.getElem_cons_zero]; go_simp; (try with_reducible rfl))
  try simp only [List.getElem_cons_succ, List.getElem_cons_zero, Act.put, List.setIfInBounds_toArray, List.set_cons_zero, List.set_cons_succ]
  refine take_at 1 (by kernel_rfl) (v := ?v2) (by kernel_rfl) (by kernel_rfl) (by kernel_rfl) (fun _ _ _ h => h) (by rfl) ?y2 (by assumption) ?r2
  case y2 => (intro w hSw; obtain ⟨h1, h2⟩ := hSw; simp only [List.getElem_cons_succ, List.getElem_cons_zero]; go_simp; (try with_reducible rfl))
  try simp only [List.getElem_cons_succ, List.getElem_cons_zero, Act.put, List.setIfInBounds_toArray, List.set_cons_zero, List.set_cons_succ]
  refine take_at 3 (by kernel_rfl) (v := ?v3) (by kernel_rfl) (by kernel_rfl) (by kernel_rfl) (fun _ _ _ h => h) (by rfl) ?y3 (by assumption) ?r3
  case y3 => (intro w hSw; obtain ⟨h1, h2⟩ := hSw; simp only [List.getElem_cons_succ, List.getElem_cons_zero]; go_simp; (try with_reducible rfl))
  try simp only [List.getElem_cons_succ, List.getElem_cons_zero, Act.put, List.setIfInBounds_toArray, List.set_cons_zero, List.set_cons_succ]
  refine ready_at 2 (by kernel_rfl) (by kernel_rfl) (fun K hK => ?_)
  simp only [List.getElem_cons_succ, List.getElem_cons_zero]
  go_simp
  go_at_call 46
  refine (HSH.out _).mono ?_
  rintro e wa ⟨rfl, hb_⟩
  have BA := Lib.hid (BD.out.trans (hb_.mono BD.out.size))
  clear hb_
  (try go_wp2_with fail)
  refine hK.out _ _ (HS.out _ BA.out) (fun hHeld => ?_)
  clear hK K
  try simp only [List.getElem_cons_succ, List.getElem_cons_zero, Act.put, List.setIfInBounds_toArray, List.set_cons_zero, List.set_cons_succ]
  refine ready_at 4 (by kernel_rfl) (by kernel_rfl) (fun K hK => ?_)
  simp only [List.getElem_cons_succ, List.getElem_cons_zero]
  go_simp
  go_at_call 57
  refine (HIT.out _ BA.out).mono ?_
  rintro e wb ⟨vb, rfl, ho_, hb_⟩
  obtain ⟨pi, ni, ci, rfl, ht_⟩ := HTO.out _ _ _ ho_ (BA.out.trans (hb_.mono BA.out.size))
  have BB := Lib.hid (BA.out.trans (hb_.mono BA.out.size))
  have TB := Lib.hid ht_.1
  have hni := ht_.2
  clear hb_ ho_ ht_
  (try go_wp2_with fail)
  refine hK.out _ _ (HS.out _ BB.out) (fun hHeld => ?_)
  clear hK K
  try simp only [List.getElem_cons_succ, List.getElem_cons_zero, Act.put, List.setIfInBounds_toArray, List.set_cons_zero, List.set_cons_succ]
  refine ready_at 5 (by kernel_rfl) (by kernel_rfl) (fun K hK => ?_)
  simp only [List.getElem_cons_succ, List.getElem_cons_zero]
  go_simp
  go_at_call 56
  refine (HPU.out _ _ _ _ TB.out hni).mono ?_
  rintro e wc ⟨vc, rfl, ho_, hb_⟩
  have BC := Lib.hid (BB.out.trans (hb_.mono BB.out.size))
  have OC := Lib.hid (Own8.weak15 ho_ BB.out.size)
  clear hb_ ho_
  (try go_wp2_with fail)
  refine hK.out _ _ (HS.out _ BC.out) (fun hHeld => ?_)
  clear hK K
  try simp only [List.getElem_cons_succ, List.getElem_cons_zero, Act.put, List.setIfInBounds_toArray, List.set_cons_zero, List.set_cons_succ]
  refine take_at 6 (by kernel_rfl) (v := ?v4) (by kernel_rfl) (by kernel_rfl) (by kernel_rfl) (fun _ _ _ h => h) (by rfl) ?y4 (by assumption) ?r4
  case y4 => (intro w hSw; (try dsimp only at hSw); simp only [List.getElem_cons_succ, List.getElem_cons_zero]; go_simp; (try with_reducible rfl))
  try simp only [List.getElem_cons_succ, List.getElem_cons_zero, Act.put, List.setIfInBounds_toArray, List.set_cons_zero, List.set_cons_succ]
  refine take_at 7 (by kernel_rfl) (v := ?v5) (by kernel_rfl) (by kernel_rfl) (by kernel_rfl) (fun _ _ _ h => h) (by rfl) ?y5 (by assumption) ?r5
  case y5 => (intro w hSw; (try dsimp only at hSw); simp only [List.getElem_cons_succ, List.getElem_cons_zero]; go_simp; (try with_reducible rfl))
  try simp only [List.getElem_cons_succ, List.getElem_cons_zero, Act.put, List.setIfInBounds_toArray, List.set_cons_zero, List.set_cons_succ]
  refine take_at 8 (by kernel_rfl) (v := ?v6) (by kernel_rfl) (by kernel_rfl) (by kernel_rfl) (fun _ _ _ h => h) (by rfl) ?y6 (by assumption) ?r6
  case y6 => (intro w hSw; (try dsimp only at hSw); simp only [List.getElem_cons_succ, List.getElem_cons_zero]; go_simp; (try with_reducible rfl))
  try simp only [List.getElem_cons_succ, List.getElem_cons_zero, Act.put, List.setIfInBounds_toArray, List.set_cons_zero, List.set_cons_succ]
  refine take_at 9 (by kernel_rfl) (v := ?v7) (by kernel_rfl) (by kernel_rfl) (by kernel_rfl) (fun _ _ _ h => h) (by rfl) ?y7 (by assumption) ?r7
  case y7 => (intro w hSw; (try dsimp only at hSw); simp only [List.getElem_cons_succ, List.getElem_cons_zero]; go_simp; (try with_reducible rfl))
  try simp only [List.getElem_cons_succ, List.getElem_cons_zero, Act.put, List.setIfInBounds_toArray, List.set_cons_zero, List.set_cons_succ]
  refine take_at 10 (by kernel_rfl) (v := ?v8) (by kernel_rfl) (by kernel_rfl) (by kernel_rfl) (fun _ _ _ h => h) (by rfl) ?y8 (by assumption) ?r8
  case y8 => (intro w hSw; (try dsimp only at hSw); simp only [List.getElem_cons_succ, List.getElem_cons_zero]; go_simp; (try with_reducible rfl))
  try simp only [List.getElem_cons_succ, List.getElem_cons_zero, Act.put, List.setIfInBounds_toArray, List.set_cons_zero, List.set_cons_succ]
  refine wpAnyH_done (by kernel_rfl) ?_ _
  go_wp2_with fail
  go_ret
  exact ⟨vc, rfl, Own8.weak15 OC.out HB1.out.size, HB1.out.trans (BC.out.mono HB1.out.size)⟩
end
/-- What the reference makes of a note that may be, its data not too long. -/
theorem rbody_fits {x : Not} (h : Fits x) : rbody x = inner x := by unfold rbody; rw [put_items h]
end
end Go.Proofs.YtbogjfmefkhglaaGreat
