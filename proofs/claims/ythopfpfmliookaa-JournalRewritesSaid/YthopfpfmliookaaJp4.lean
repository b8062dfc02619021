/-
  A journal over a disk, plain: its records, its disk's state, what a call leaves of both. No program is named here.
-/
import Derived.Test.YthopfpfmliookaaJp1
import Derived.Test.YthopfpfmliookaaJp3
namespace Go.Proofs.Ythopfpfmliookaa
section
set_option linter.unusedSimpArgs false
set_option linter.unusedVariables false
namespace Jrn
open Dsk Frm
abbrev Rs := List (List Int)
/-- How many of some records are whole within so many bytes. -/
def firmN : Rs → Nat → Nat
  | [], _ => 0
  | b :: r, f => if 8 + b.length ≤ f then firmN r (f - (8 + b.length)) + 1 else 0
theorem firmN_frs : ∀ (l r : Rs), firmN (l ++ r) (frs l).length = l.length
  | [], r => by
    cases r with
    | nil => rfl
    | cons b r => simp [firmN, frs_nil]
  | b :: l, r => by
    rw [List.cons_append, firmN, frs_cons, List.length_append, fr_length, if_pos (by omega), show 8 + b.length + (frs l).length - (8 + b.length) = (frs l).length by omega, firmN_frs l r]
    rfl
theorem firmN_take (l : Rs) (m : Nat) (h : m ≤ l.length) : firmN l (frs (l.take m)).length = m := by
  have := firmN_frs (l.take m) (l.drop m)
  rw [List.take_append_drop, List.length_take] at this
  rw [this]; omega
theorem frs_snoc (l : Rs) (b : List Int) : frs (l ++ [b]) = frs l ++ fr b := by rw [frs_append, frs_cons, frs_nil, List.append_nil]
theorem frs_succ {l : Rs} {k : Nat} (hk : k < l.length) : (frs (l.take (k + 1))).length = (frs (l.take k)).length + (8 + l[k].length) := by
  rw [List.take_succ_eq_append_getElem hk, frs_snoc, List.length_append, fr_length]
theorem frs_most (l : Rs) (h : ∀ x ∈ l, Rec x) : (frs l).length ≤ 4008 * l.length := by
  induction l with
  | nil => simp [frs_nil]
  | cons b l ih =>
    have h1 := (h b (List.mem_cons_self ..)).most
    have h2 := ih fun x hx => h x (List.mem_cons_of_mem _ hx)
    rw [frs_cons, List.length_append, fr_length, List.length_cons]; omega
theorem frs_part (l : Rs) (m : Nat) : (frs (l.take m)).length ≤ (frs l).length := by
  have h : frs l = frs (l.take m) ++ frs (l.drop m) := by rw [← frs_append, List.take_append_drop]
  rw [h, List.length_append]; omega
/-! ### What a call leaves -/
def japE (s : DState) (b : List Int) : Int := if bad b = 0 then appE s (8 + b.length) else bad b
def japS (s : DState) (b : List Int) : DState := if bad b = 0 then appS s (fr b) else s
def japL (L : Rs) (s : DState) (b : List Int) : Rs := if japE s b = 0 then L ++ [b] else L
def rwS (s : DState) (l : Rs) : DState := if appE s (frs l).length = 0 then swS (nextS s (frs l)) else nextS s (frs l)
def rwE (s : DState) (l : Rs) : Int := if appE s (frs l).length = 0 then syncE (nextS s (frs l)) else appE s (frs l).length
def jrwE (s : DState) (l : Rs) : Int := if joinE l = 0 then rwE s l else joinE l
def jrwS (s : DState) (l : Rs) : DState := if joinE l = 0 then rwS s l else s
def jrwL (L : Rs) (s : DState) (l : Rs) : Rs := if jrwE s l = 0 then l else L
def opL (s : DState) : Rs := (split s.log).1
def opE (s : DState) : Int := if s.out = true then 11 else if (split s.log).2 = s.log.length then 0 else rwE s (opL s)
def opS (s : DState) : DState := if s.out = true then s else if (split s.log).2 = s.log.length then s else rwS s (opL s)
/-- A journal's records are its disk's, as long as it is not out. -/
structure Tied (L : Rs) (s : DState) : Prop where
  recs : ∀ x ∈ L, Rec x ∧ Bytes x
  log : ∃ z, s.log = frs L ++ z ∧ (s.out = false → z = [])
  next : s.out = false → s.next = []
/-! ### A disk with records -/
/-- L are laid, m of them firm. -/
def mk (L : Rs) (m room k : Nat) : DState := ⟨frs L, (frs (L.take m)).length, [], room, k, -1, false⟩
def Rec2 (l : Rs) : Prop := ∀ x ∈ l, Rec x ∧ Bytes x
theorem Rec2.rec {l : Rs} (h : Rec2 l) : ∀ x ∈ l, Rec x := fun x hx => (h x hx).1
theorem Rec2.take {l : Rs} (h : Rec2 l) (k : Nat) : Rec2 (l.take k) := fun x hx => h x (List.mem_of_mem_take hx)
theorem Rec2.snoc {l : Rs} (h : Rec2 l) {b : List Int} (hb : Rec b ∧ Bytes b) : Rec2 (l ++ [b]) := fun x hx => by
  rcases List.mem_append.1 hx with hx | hx
  · exact h x hx
  · rw [List.mem_singleton.1 hx]; exact hb
theorem mk_fresh (room : Nat) : fresh room = mk [] 0 room 0 := rfl
theorem mk_tied {L : Rs} (h : Rec2 L) (m room k : Nat) : Tied L (mk L m room k) := ⟨h, ⟨[], by simp [mk], fun _ => rfl⟩, fun _ => rfl⟩
theorem mk_open {L : Rs} (h : Rec2 L) (m room k : Nat) : opE (mk L m room k) = 0 ∧ opS (mk L m room k) = mk L m room k ∧ opL (mk L m room k) = L := by
  have hs : split (mk L m room k).log = (L, (frs L).length) := split_join h.rec
  have hl : (mk L m room k).log.length = (frs L).length := rfl
  refine ⟨?_, ?_, by unfold opL; rw [hs]⟩
  · unfold opE; rw [if_neg (by simp [mk]), hs, if_pos hl.symm]
  · unfold opS; rw [if_neg (by simp [mk]), hs, if_pos hl.symm]
theorem mk_append {L : Rs} (m room k : Nat) {b : List Int} (hb : Rec b) (hm : m ≤ L.length) (hr : (frs L).length + (8 + b.length) ≤ room) :
    japE (mk L m room k) b = 0 ∧ japS (mk L m room k) b = mk (L ++ [b]) m room (k + 1) ∧ japL L (mk L m room k) b = L ++ [b] := by
  have h0 := hb.bad
  have hz : Dsk.bad (mk L m room k) (fr b).length = 0 := bad_zero.2 ⟨rfl, by rw [fr_length]; simpa [mk] using hr⟩
  have he : japE (mk L m room k) b = 0 := by
    unfold japE
    rw [if_pos h0, ← fr_length, (app_in hz).1]
    rfl
  refine ⟨he, ?_, by unfold japL; rw [if_pos he]⟩
  unfold japS
  rw [if_pos h0, (app_in hz).2.1]
  unfold mk
  rw [frs_snoc, List.take_append_of_le_length hm]
  simp [Dsk.step]
theorem mk_sync (L : Rs) (m room k : Nat) : syncE (mk L m room k) = 0 ∧ syncS (mk L m room k) = mk L L.length room (k + 1) := by
  refine ⟨rfl, ?_⟩
  unfold syncS
  rw [if_neg (by simp [mk]), if_neg (by simp [mk])]
  unfold mk
  rw [List.take_length]
  simp [Dsk.step]
/-- A disk with the first n bytes of records' frames. -/
def torn (L : Rs) (n room k : Nat) : DState := ⟨(frs L).take n, ((frs L).take n).length, [], room, k, -1, false⟩
theorem mk_crash (L : Rs) (m room k : Nat) (n : Nat) : crashE (n : Int) = 0 ∧ crashS (mk L m room k) n = torn L ((frs (L.take m)).length + n) room k := by
  refine ⟨if_neg (by omega), ?_⟩
  unfold crashS
  rw [if_neg (by omega)]
  simp [cut, mk, torn]
theorem cut_recs : ∀ (L : Rs) (n : Nat), n ≤ (frs L).length → ∃ q t, q ≤ L.length ∧ n = (frs (L.take q)).length + t ∧ (t = 0 ∨ ∃ b, L[q]? = some b ∧ t < 8 + b.length)
  | [], n, h => ⟨0, 0, by simp, by simp [frs_nil] at h ⊢; omega, .inl rfl⟩
  | b :: L, n, h => by
    rw [frs_cons, List.length_append, fr_length] at h
    by_cases h1 : n < 8 + b.length
    · exact ⟨0, n, by simp, by simp [frs_nil], .inr ⟨b, rfl, h1⟩⟩
    · obtain ⟨q, t, hq, hn, ht⟩ := cut_recs L (n - (8 + b.length)) (by omega)
      refine ⟨q + 1, t, by simpa using hq, ?_, ?_⟩
      · clear ht; rw [List.take_succ_cons, frs_cons, List.length_append, fr_length]; omega
      · rcases ht with ht | ⟨d, h2, ht⟩
        · exact .inl ht
        · exact .inr ⟨d, by simpa using h2, ht⟩
/-- What is opened behind a crash: all firm records, and some first ones of the others. -/
theorem torn_open {L : Rs} (h : Rec2 L) (m n room k : Nat) (hm : m ≤ L.length) (hr : 2 * (frs L).length ≤ room) :
    ∃ q k', m ≤ q ∧ q ≤ L.length ∧ k' ≤ k + 2 ∧ (frs (L.take q)).length ≤ (frs (L.take m)).length + n ∧ opE (torn L ((frs (L.take m)).length + n) room k) = 0 ∧ opL (torn L ((frs (L.take m)).length + n) room k) = L.take q ∧
      opS (torn L ((frs (L.take m)).length + n) room k) = mk (L.take q) (L.take q).length room k' := by
  have hp := frs_part L m
  obtain ⟨c, hc⟩ : ∃ c, c = min ((frs (L.take m)).length + n) (frs L).length := ⟨_, rfl⟩
  have htk : (frs L).take ((frs (L.take m)).length + n) = (frs L).take c := by rw [hc]; exact (List.take_eq_take_min ..)
  have hto : torn L ((frs (L.take m)).length + n) room k = torn L c room k := by unfold torn; rw [htk]
  rw [hto]
  obtain ⟨q, t, hq, hn, ht⟩ := cut_recs L c (by omega)
  have hmq : m ≤ q := by
    rcases Nat.lt_or_ge q m with hlt | hge
    · exfalso
      have h1 : (frs (L.take (q + 1))).length ≤ (frs (L.take m)).length := by
        have := frs_part (L.take m) (q + 1)
        rwa [List.take_take, Nat.min_eq_left (by omega)] at this
      rw [frs_succ (by omega)] at h1
      rcases ht with rfl | ⟨d, h2, ht⟩
      · omega
      · have h3 : L[q]'(by omega) = d := by rw [List.getElem?_eq_getElem (by omega)] at h2; exact Option.some.inj h2
        rw [h3] at h1; omega
    · exact hge
  have hsp : split (torn L c room k).log = (L.take q, (frs (L.take q)).length) := by
    show split ((frs L).take c) = _
    rcases ht with rfl | ⟨d, h2, ht⟩
    · have e : frs L = frs (L.take q) ++ frs (L.drop q) := by rw [← frs_append, List.take_append_drop]
      rw [hn, Nat.add_zero]
      conv => lhs; rw [e, List.take_left]
      exact split_join (h.take q).rec
    · obtain ⟨hql, rfl⟩ := List.getElem?_eq_some_iff.1 h2
      have e : L = L.take q ++ L[q] :: L.drop (q + 1) := by rw [List.getElem_cons_drop, List.take_append_drop]
      have := split_torn (L.take q) (L.drop (q + 1)) L[q] t (h.take q).rec (h.rec _ (List.getElem_mem hql)) ht
      rw [← e, ← hn] at this
      exact this
  have hlen : (torn L c room k).log.length = c := by clear ht; show ((frs L).take c).length = c; rw [List.length_take]; omega
  have hol : opL (torn L c room k) = L.take q := by unfold opL; rw [hsp]
  have hqn : (frs (L.take q)).length ≤ (frs (L.take m)).length + n := by clear ht; omega
  have hout : ¬ (torn L c room k).out = true := by simp [torn]
  by_cases ht0 : t = 0
  · subst ht0
    have hl : (split (torn L c room k).log).2 = (torn L c room k).log.length := by rw [hsp, hlen]; simp only; omega
    refine ⟨q, k, hmq, hq, by omega, hqn, ?_, hol, ?_⟩
    · unfold opE; rw [if_neg hout, if_pos hl]
    · unfold opS; rw [if_neg hout, if_pos hl]
      have e : frs L = frs (L.take q) ++ frs (L.drop q) := by rw [← frs_append, List.take_append_drop]
      have e2 : (frs L).take c = frs (L.take q) := by rw [hn, Nat.add_zero]; conv => lhs; rw [e, List.take_left]
      unfold torn mk
      rw [e2, List.take_length]
  · have hl : ¬ (split (torn L c room k).log).2 = (torn L c room k).log.length := by rw [hsp, hlen]; simp only; omega
    have hz : Dsk.bad (torn L c room k) (frs (L.take q)).length = 0 := bad_zero.2 ⟨rfl, by
      have := frs_part L q
      clear ht; simp only [hlen]; show c + 0 + _ ≤ room; omega⟩
    have he : appE (torn L c room k) (frs (L.take q)).length = 0 := by rw [(app_in hz).1]; rfl
    have hns : nextS (torn L c room k) (frs (L.take q)) = { Dsk.step (torn L c room k) with next := frs (L.take q) } := by rw [(app_in hz).2.2]; rfl
    refine ⟨q, k + 2, hmq, hq, by omega, hqn, ?_, hol, ?_⟩
    · unfold opE
      rw [if_neg hout, if_neg hl, hol]
      unfold rwE
      rw [if_pos he, hns]
      rfl
    · unfold opS
      rw [if_neg hout, if_neg hl, hol]
      unfold rwS
      rw [if_pos he, hns]
      unfold mk
      rw [List.take_length]
      rfl
/-! ### Rewritten, with a fuse -/
def fused (L : Rs) (m room k fuse : Nat) : DState := { mk L m room k with left := fuse }
theorem fused_tied {L : Rs} (h : Rec2 L) (m room k fuse : Nat) : Tied L (fused L m room k fuse) := ⟨h, ⟨[], by simp [fused, mk], fun _ => rfl⟩, fun _ => rfl⟩
theorem mk_fuse (L : Rs) (m room k fuse : Nat) : fuseE (fuse : Int) = 0 ∧ fuseS (mk L m room k) fuse = fused L m room k fuse := by
  refine ⟨if_neg (by omega), ?_⟩
  unfold fuseS
  rw [if_neg (by omega)]
  rfl
/-- A rewrite: done, or burnt; what a crash leaves of it. -/
theorem fused_rewrite {L l : Rs} (hl : Rec2 l) (m room k fuse : Nat) (hr : (frs L).length + (frs l).length ≤ room) (kept : Nat) :
    (1 < fuse ∧ jrwE (fused L m room k fuse) l = 0 ∧ (jrwS (fused L m room k fuse) l).firm = (frs l).length ∧ Tied l (jrwS (fused L m room k fuse) l) ∧ (jrwS (fused L m room k fuse) l).steps = k + 2 ∧ crashS (jrwS (fused L m room k fuse) l) kept = mk l l.length room (k + 2)) ∨
    (fuse ≤ 1 ∧ jrwE (fused L m room k fuse) l = 11 ∧ (jrwS (fused L m room k fuse) l).steps ≤ k + 2 ∧ ∃ k', k' ≤ k + 2 ∧ crashS (jrwS (fused L m room k fuse) l) kept = torn L ((frs (L.take m)).length + kept) room k') := by
  have hj := joinE_zero hl.rec
  have hz : Dsk.bad (fused L m room k fuse) (frs l).length = 0 := bad_zero.2 ⟨rfl, by show (frs L).length + 0 + _ ≤ room; omega⟩
  have e1 : jrwE (fused L m room k fuse) l = rwE (fused L m room k fuse) l := if_pos hj
  have e2 : jrwS (fused L m room k fuse) l = rwS (fused L m room k fuse) l := if_pos hj
  have hns : nextS (fused L m room k fuse) (frs l) = { Dsk.step (fused L m room k fuse) with next := frs l } := by rw [(app_in hz).2.2]; rfl
  rw [e1, e2]
  by_cases h0 : fuse = 0
  · subst h0
    have he : appE (fused L m room k 0) (frs l).length = 11 := by rw [(app_in hz).1]; rfl
    refine .inr ⟨by omega, ?_, ?_, k + 1, by omega, ?_⟩
    · unfold rwE; rw [if_neg (by rw [he]; decide), he]
    · unfold rwS; rw [if_neg (by rw [he]; decide), hns]; show k + 1 ≤ k + 2; omega
    · unfold rwS; rw [if_neg (by rw [he]; decide), hns]
      unfold crashS
      rw [if_neg (by omega)]
      simp [cut, fused, mk, torn, Dsk.step]
  · have he : appE (fused L m room k fuse) (frs l).length = 0 := by
      rw [(app_in hz).1]; unfold told; rw [if_neg]; show ¬ ((fuse : Int) = 0); omega
    by_cases h1 : fuse = 1
    · subst h1
      refine .inr ⟨by omega, ?_, ?_, k + 2, by omega, ?_⟩
      · unfold rwE; rw [if_pos he, hns]; rfl
      · unfold rwS; rw [if_pos he, hns]; show k + 2 ≤ k + 2; omega
      · unfold rwS; rw [if_pos he, hns]
        have : swS { Dsk.step (fused L m room k 1) with next := frs l } = ⟨frs L, (frs (L.take m)).length, frs l, room, k + 2, 0, true⟩ := rfl
        rw [this]
        unfold crashS
        rw [if_neg (by omega)]
        simp [cut, torn]
    · have hsw : swS { Dsk.step (fused L m room k fuse) with next := frs l } = ⟨frs l, (frs l).length, [], room, k + 2, (fuse : Int) - 2, false⟩ := by
        have hlf : (Dsk.step (fused L m room k fuse)).left = (fuse : Int) - 1 := by
          show (if (0 : Int) < (fuse : Int) then (fuse : Int) - 1 else fuse) = _
          rw [if_pos (by omega)]
        have hot : (Dsk.step (fused L m room k fuse)).out = false := by
          show (false || decide ((fuse : Int) = 0)) = false
          simp; omega
        unfold swS
        rw [if_neg (by simp only [hot]; decide), if_neg (by simp only [hlf]; omega)]
        unfold Dsk.step at hlf hot ⊢
        simp only [fused, mk] at hlf hot ⊢
        simp only [hlf, hot]
        simp
        constructor
        · split <;> omega
        · omega
      refine .inl ⟨by omega, ?_, ?_, ⟨hl, ⟨[], ?_, fun _ => rfl⟩, fun _ => ?_⟩, ?_, ?_⟩
      · unfold rwE; rw [if_pos he, hns]
        have hot : (Dsk.step (fused L m room k fuse)).out = false := by
          show (false || decide ((fuse : Int) = 0)) = false
          simp; omega
        have hlf : (Dsk.step (fused L m room k fuse)).left = (fuse : Int) - 1 := by
          show (if (0 : Int) < (fuse : Int) then (fuse : Int) - 1 else fuse) = _
          rw [if_pos (by omega)]
        unfold syncE told
        rw [if_neg (by simp only [hot]; decide), if_neg (by simp only [hlf]; omega)]
      all_goals (unfold rwS; rw [if_pos he, hns, hsw])
      · simp
      · unfold crashS
        rw [if_neg (by omega)]
        unfold mk
        rw [List.take_length]
        simp [cut]
        exact List.take_of_length_le (by omega)
theorem mk_rewrite {L l : Rs} (hl : Rec2 l) (m room k : Nat) (hr : (frs L).length + (frs l).length ≤ room) :
    jrwE (mk L m room k) l = 0 ∧ jrwS (mk L m room k) l = mk l l.length room (k + 2) ∧ jrwL L (mk L m room k) l = l := by
  have hj := joinE_zero hl.rec
  have hz : Dsk.bad (mk L m room k) (frs l).length = 0 := bad_zero.2 ⟨rfl, by show (frs L).length + 0 + _ ≤ room; omega⟩
  have he : appE (mk L m room k) (frs l).length = 0 := by rw [(app_in hz).1]; rfl
  have hns : nextS (mk L m room k) (frs l) = { Dsk.step (mk L m room k) with next := frs l } := by rw [(app_in hz).2.2]; rfl
  have e1 : jrwE (mk L m room k) l = 0 := by
    unfold jrwE
    rw [if_pos hj]
    unfold rwE
    rw [if_pos he, hns]
    rfl
  refine ⟨e1, ?_, by unfold jrwL; rw [if_pos e1]⟩
  unfold jrwS
  rw [if_pos hj]
  unfold rwS
  rw [if_pos he, hns]
  unfold mk
  rw [List.take_length]
  rfl
end Jrn
end
end Go.Proofs.Ythopfpfmliookaa
