/-
  The law package's opens, begins, fine.
  A disk with records and a journal over it, call by call; the law package's awake.
  The law package's awake.
-/
import Derived.Test.YthopfpfmliookaaJp9
import Derived.Lib.SlBytesConst
namespace Go.Proofs.Ythopfpfmliookaa
section
set_option linter.unusedSimpArgs false
set_option linter.unusedVariables false
open Go.RowKit Sha Dsk Jrn
variable {RD : DiskRep} {RJ : JRep}
def OpensDone (RD : DiskRep) (RJ : JRep) (n : Nat) (w : World) (e : Ending) (w' : World) : Prop :=
  ∃ bd fd bj fj, e = .returned (.tuple #[optr bd, optr bj]) ∧ Duo RD RJ w w' bd fd (mk [] 0 n 0) bj fj []
set_option maxRecDepth 100000 in
set_option maxHeartbeats 1000000 in
theorem opens_any (D : DisksFew RD) (F : JournalOK RD RJ) (z : Int) (n : Nat) (w : World) (hz : z = n) (hn : n ≤ 1000000) :
    Calls Try.prog 15 #[i64v z] w (OpensDone RD RJ n w) := by
  have HNX := Lib.hid (D.new z w (by unfold fit64; omega))
  have HE := Lib.hid (newE_in (n := z) (by omega))
  have HZ := Lib.hid hz
  have HO := Lib.hid (mk_open (L := []) (fun x hx => by simp at hx) 0 n 0)
  clear hz
  go_enter Try.func15, Try.ntmps15
  go_wp2_with fail
  refine HNX.out.mono ?_
  rintro e w1 ⟨hb1, ⟨_, bd, fd, rfl, hr, hnew⟩ | ⟨hz, _⟩⟩
  · rw [HZ.out, Int.toNat_natCast, mk_fresh] at hr
    have S1 := Lib.hid (show Solo RD w w1 bd fd (mk [] 0 n 0) from ⟨hr, hnew, hb1⟩)
    have HOP := Lib.hid (F.open_ bd fd (mk [] 0 n 0) w1 hr (by simp [mk]) (fun _ => rfl))
    clear hr hnew hb1 HNX HE
    go_wp2_with fail
    refine HOP.out.mono ?_
    rintro e w2 (⟨_, bj, fj, fd', rfl, hd, hj, ha, hnj, ht, hf⟩ | ⟨h0, _⟩)
    · rw [HO.out.2.1] at hd
      rw [HO.out.2.2] at hj
      have P2 := Lib.hid (S1.out.opened hd hj ha hnj ht hf)
      clear hd hj ha hnj ht hf HOP S1
      go_wp2_with fail
      go_ret2
      exact ⟨bd, fd', bj, fj, rfl, P2.out⟩
    · exact absurd HO.out.1 h0
  · exact absurd (hz.symm.trans HE.out) (by decide)
def begun (l x : Rs) : Bool := decide (x.length ≤ l.length ∧ l.take x.length = x)
set_option maxRecDepth 100000 in
set_option maxHeartbeats 1000000 in
theorem begins_any (xs ys : Rs) (p q : Option Addr) (n m c d : Nat) (w : World) (hx : Recs w p n c xs) (hy : Recs w q m d ys) :
    Calls Try.prog 23 #[.slice p n c, .slice q m d] w (SaysB (.bool (begun xs ys)) w) := by
  have m1 := hx.max
  have c1 := hx.le
  have m2 := hy.max
  have c2 := hy.le
  by_cases hmn : m ≤ n
  · have HS := Lib.hid (recsSame_any (xs.take m) ys p q m m c d w (hx.take m hmn) hy)
    have HB := Lib.hid (show begun xs ys = decide (xs.take m = ys) by
      unfold begun
      rw [← hx.len, ← hy.len]
      simp [hmn])
    have hmc : m ≤ c := by omega
    clear hx hy
    go_enter Try.func23, Try.ntmps23
    go_wp2_with (go_at_call 17; refine HS.out.mono ?_; rintro e w1 ⟨rfl, hb⟩; have HW := Lib.hid hb; clear hb)
    go_ret
    exact ⟨by rw [HB.out]; rfl, HW.out⟩
  · have HB := Lib.hid (show begun xs ys = false by
      unfold begun
      rw [← hx.len, ← hy.len]
      simp [hmn])
    clear hx hy
    go_enter Try.func23, Try.ntmps23
    go_wp2_with fail
    go_ret
    exact ⟨by rw [HB.out]; rfl, Below.refl _ _⟩
structure Fine (l : Rs) : Prop where
  most : l.length ≤ 20
  recs : ∀ x ∈ l, 1 ≤ x.length ∧ x.length ≤ 200
def FineDone (l : Rs) (w : World) (e : Ending) (w' : World) : Prop := ∃ b : Bool, e = .returned (.bool b) ∧ (b = true → Fine l) ∧ Below w.heap.size w w'
set_option maxRecDepth 100000 in
set_option maxHeartbeats 1000000 in
theorem fine_any (l : Rs) (p : Option Addr) (n c : Nat) (w : World) (h : Recs w p n c l) : Calls Try.prog 19 #[.slice p n c] w (FineDone l w) := by
  have HX := Lib.hid h
  have m1 := h.max
  have c1 := h.le
  clear h
  go_enter Try.func19, Try.ntmps19
  go_wp2_with fail
  go_loop [3] (fun i => ∃ k : Nat, i = .int .i64 k ∧ k ≤ n ∧ k ≤ 21 ∧ Hid (∀ x ∈ l.take k, 1 ≤ x.length ∧ x.length ≤ 200)) (fun i => n - (intOf i).toNat)
  case atStart => exact ⟨0, rfl, by omega, by omega, Lib.hid (by simp)⟩
  case round =>
    obtain ⟨k, rfl, hk, hk21, HP⟩ := hrel
    by_cases hlt : k < n ∧ k < 21
    · obtain ⟨hlt, hlt2⟩ := hlt
      have hkl : k < l.length := by rw [← HX.out.len]; exact hlt
      obtain ⟨b, off, q, d, rfl, a1, g1⟩ := HX.out.get k hkl
      have HTK := Lib.hid (show l.take (k + 1) = l.take k ++ [l[k]] from List.take_succ_eq_append_getElem hkl)
      obtain ⟨x, hx⟩ : ∃ x, x = l[k] := ⟨_, rfl⟩
      rw [← hx] at a1 HTK
      obtain ⟨m, hm⟩ : ∃ m, m = x.length := ⟨_, rfl⟩
      rw [← hm] at a1
      have HM := Lib.hid hm
      clear g1 hx hkl hm
      have i1 : (k : Int) < 21 := by omega
      by_cases h0 : m = 0
      · subst h0
        go_wp2_with fail
        go_ret
        exact ⟨false, rfl, fun h => (by cases h), Below.refl _ _⟩
      · have h0' : ((m : Int) == 0) = false := by rw [beq_eq_false_iff_ne]; omega
        by_cases h2 : 200 < m
        · have h2' : (200 : Int) < (m : Int) := by omega
          go_wp2_with fail
          go_ret
          exact ⟨false, rfl, fun h => (by cases h), Below.refl _ _⟩
        · have h2' : ¬ (200 : Int) < (m : Int) := by omega
          go_wp2_with fail
          go_round
          case rel => exact ⟨k + 1, by go_num, by omega, by omega, Lib.hid fun y hy => by
            rw [HTK.out] at hy
            rcases List.mem_append.1 hy with hy | hy
            · exact HP.out y hy
            · rw [List.mem_singleton.1 hy, ← HM.out]; omega⟩
          case measure => simp [intOf]; omega
    · by_cases hkn : k < n
      · have h21 : ¬ (k : Int) < 21 := by omega
        have hn20 : ¬ (n : Int) ≤ 20 := by omega
        go_wp2_with fail
        go_ret
        exact ⟨false, rfl, fun h => (by cases h), Below.refl _ _⟩
      · obtain rfl : k = n := by omega
        go_wp2_with fail
        go_ret
        refine ⟨_, rfl, fun h => ?_, Below.refl _ _⟩
        have h20 : k ≤ 20 := by have := of_decide_eq_true h; omega
        exact ⟨by rw [← HX.out.len]; exact h20, fun x hx => HP.out x (by rw [List.take_of_length_le (by rw [← HX.out.len]; exact Nat.le_refl _)]; exact hx)⟩
end
section
set_option linter.unusedSimpArgs false
set_option linter.unusedVariables false
open Go.RowKit Sha Dsk Jrn
/-- What a journal's call answers, both gone on. -/
def UDone (RD : DiskRep) (RJ : JRep) (w0 : World) (bd bj : Nat) (s' : DState) (L' : Rs) (v : Value) (e : Ending) (w' : World) : Prop := e = .returned v ∧ ∃ fd fj, Duo RD RJ w0 w' bd fd s' bj fj L'
def UAll (RD : DiskRep) (RJ : JRep) (w0 w : World) (bd : Nat) (fd : List Nat) (bj : Nat) (fj : List Nat) (s : DState) (L : Rs) (e : Ending) (w' : World) : Prop :=
  ∃ p c bs, e = .returned (.slice p L.length c) ∧ RecsIn w' p L.length c L bs ∧ (∀ k ∈ bs, w.heap.size ≤ k) ∧ Below w.heap.size w w' ∧ Duo RD RJ w0 w' bd fd s bj fj L
section
variable {RD : DiskRep} {RJ : JRep} {w0 w w' : World} {bd bj : Nat} {fd fj : List Nat} {s s' : DState} {L L' : Rs}
theorem Pair.did (h : Duo RD RJ w0 w bd fd s bj fj L) {f : Nat} {args : Array Value} {v : Value} (hc : Calls Try.prog f args w (JDone RD RJ bd fd bj fj s' L' v w)) : Calls Try.prog f args w (UDone RD RJ w0 bd bj s' L' v) :=
  hc.mono (by
    rintro e w' ⟨rfl, fd', fj', hd, hj, ha, ht, hf⟩
    exact ⟨rfl, fd', fj', h.jstep hd hj ha ht hf⟩)
theorem Pair.says (D : DisksFew RD) (F : JournalOK RD RJ) (h : Duo RD RJ w0 w bd fd s bj fj L) {f : Nat} {args : Array Value} {v : Value} (hc : Calls Try.prog f args w (SaysB v w)) :
    Calls Try.prog f args w (fun e w' => e = .returned v ∧ Duo RD RJ w0 w' bd fd s bj fj L) :=
  hc.mono (by
    rintro e w' ⟨rfl, hb⟩
    exact ⟨rfl, h.on D.held F.held hb⟩)
theorem jappend_of (F : JournalOK RD RJ) {m room k : Nat} (h : Duo RD RJ w0 w bd fd (mk L m room k) bj fj L) (hL : Rec2 L) (zs : List Int) (n : Nat) (p : Option Addr) (cap : Nat) (hn : zs.length = n) (hg : GoodC w zs p cap) (ha : ApartC zs p (fd ++ fj))
    (hb : Frm.Rec zs) (hm : m ≤ L.length) (hr : (Frm.frs L).length + (8 + zs.length) ≤ room) (hk : k ≤ 1000) :
    Calls Try.prog 8 #[optr bj, .slice p n cap] w (UDone RD RJ w0 bd bj (mk (L ++ [zs]) m room (k + 1)) (L ++ [zs]) (i64v 0)) := by
  have h1 := F.append bd fd (mk L m room k) bj fj L zs n p cap w h.one h.two h.apart (mk_tied hL m room k) (by show k ≤ _; omega) hn (by have := hb.most; omega) hg ha
  obtain ⟨e1, e2, e3⟩ := mk_append (L := L) m room k hb hm hr
  rw [e1, e2, e3] at h1
  exact h.did h1
theorem jsync_of (F : JournalOK RD RJ) {m room k : Nat} (h : Duo RD RJ w0 w bd fd (mk L m room k) bj fj L) (hL : Rec2 L) (hk : k ≤ 1000) :
    Calls Try.prog 9 #[optr bj] w (UDone RD RJ w0 bd bj (mk L L.length room (k + 1)) L (i64v 0)) := by
  have h1 := F.sync bd fd (mk L m room k) bj fj L w h.one h.two h.apart (mk_tied hL m room k) (by show k ≤ _; omega)
  obtain ⟨e1, e2⟩ := mk_sync L m room k
  rw [e1, e2] at h1
  exact h.did h1
theorem jlen_of (D : DisksFew RD) (F : JournalOK RD RJ) (h : Duo RD RJ w0 w bd fd s bj fj L) (hL : Rec2 L) (hs : (Frm.frs L).length ≤ 1000000) (n : Nat) (hn : L.length = n) :
    Calls Try.prog 12 #[optr bj] w (fun e w' => e = .returned (i64v n) ∧ Duo RD RJ w0 w' bd fd s bj fj L) := by
  have h1 := F.len bd bj fj L w h.two hs hL
  rw [hn] at h1
  exact h.says D F h1
theorem jfirm_of (D : DisksFew RD) (F : JournalOK RD RJ) {m room k : Nat} (h : Duo RD RJ w0 w bd fd (mk L m room k) bj fj L) (hL : Rec2 L) (hm : m ≤ L.length) :
    Calls Try.prog 13 #[optr bj] w (fun e w' => e = .returned (i64v m) ∧ Duo RD RJ w0 w' bd fd (mk L m room k) bj fj L) := by
  have h1 := F.firm bd fd (mk L m room k) bj fj L w h.one h.two h.apart (mk_tied hL m room k)
  rw [show firmN L (mk L m room k).firm = m from firmN_take L m hm] at h1
  exact h.says D F h1
theorem jall_of (D : DisksFew RD) (F : JournalOK RD RJ) (h : Duo RD RJ w0 w bd fd s bj fj L) (hL : Rec2 L) (hs : (Frm.frs L).length ≤ 1000000) :
    Calls Try.prog 11 #[optr bj] w (UAll RD RJ w0 w bd fd bj fj s L) :=
  (F.all bd bj fj L w h.two hs hL).mono (by
    rintro e w' ⟨p, n, c, bs, rfl, hr, hn, hb⟩
    obtain rfl := hr.len
    exact ⟨p, c, bs, rfl, hr, hn, hb, h.on D.held F.held hb⟩)
/-- A crash: the disk alone goes on. -/
theorem dcrash_of (D : DisksFew RD) {m room k : Nat} (h : Duo RD RJ w0 w bd fd (mk L m room k) bj fj L) (z : Int) (n : Nat) (hz : z = n) (hn : n ≤ 1000000) :
    Calls Try.prog 22 #[optr bd, i64v z] w (fun e w' => e = .returned (i64v 0) ∧ ∃ fd', Solo RD w0 w' bd fd' (torn L ((Frm.frs (L.take m)).length + n) room k)) := by
  subst hz
  have h1 := D.crash bd fd (mk L m room k) n w h.one ⟨by omega, by omega⟩
  obtain ⟨e1, e2⟩ := mk_crash L m room k n
  rw [e1, e2] at h1
  refine h1.mono ?_
  rintro e w' ⟨rfl, fd', hd, ht, hf⟩
  exact ⟨rfl, fd', h.fst.step hd ht hf⟩
def OpenedDone (RD : DiskRep) (RJ : JRep) (w0 w : World) (bd : Nat) (L : Rs) (m n room k : Nat) (e : Ending) (w' : World) : Prop :=
  ∃ q k' fd' bj fj, m ≤ q ∧ q ≤ L.length ∧ k' ≤ k + 2 ∧ (Frm.frs (L.take q)).length ≤ (Frm.frs (L.take m)).length + n ∧ e = .returned (.tuple #[optr bj, i64v 0]) ∧ Duo RD RJ w0 w' bd fd' (mk (L.take q) q room k') bj fj (L.take q)
theorem topen_of (F : JournalOK RD RJ) {m n room k : Nat} (S : Solo RD w0 w bd fd (torn L ((Frm.frs (L.take m)).length + n) room k)) (hL : Rec2 L) (hm : m ≤ L.length) (hr : 2 * (Frm.frs L).length ≤ room) (hk : k ≤ 1000) :
    Calls Try.prog 14 #[optr bd] w (OpenedDone RD RJ w0 w bd L m n room k) := by
  obtain ⟨q, k', h1, h2, h3, hq, e1, e2, e3⟩ := torn_open hL m n room k hm hr
  refine (F.open_ bd fd _ w S.one (by show k ≤ _; omega) (fun _ => rfl)).mono ?_
  rintro e w' (⟨_, bj, fj, fd', rfl, hd, hj, ha, hn, ht, hf⟩ | ⟨h0, _⟩)
  · rw [e3, show (L.take q).length = q by rw [List.length_take]; omega] at hd
    rw [e2] at hj
    exact ⟨q, k', fd', bj, fj, h1, h2, h3, hq, rfl, S.opened hd hj ha hn ht hf⟩
  · exact absurd e1 h0
/-- A literal's bytes, just made. -/
theorem lit_good (w : World) (zs : List Int) (cs : Array Value) (fr : Nat × Nat) (n : Nat) (hc : cs = (zs.map v8).toArray) (hn : zs.length = n) (hs : n ≤ 1000) (hb : ∀ x ∈ zs, IsByte x) : GoodC (w.alloc (.cells cs 5 fr)) zs (some ⟨w.heap.size, 0, none⟩) n := by
  refine ⟨hb, ?_, by omega, by omega, fun h => by cases h⟩
  subst hc
  refine Or.inr ⟨w.heap.size, 0, rfl, fun i v hi => ?_⟩
  rw [Nat.zero_add, cell_of_row _ _ i (zs.map v8).toArray _ fr (heap_alloc_new w _)]
  simpa using hi
theorem jappend_lit (D : DisksFew RD) (F : JournalOK RD RJ) {m room k : Nat} (h : Duo RD RJ w0 w bd fd (mk L m room k) bj fj L) (hL : Rec2 L) (zs : List Int) (cs : Array Value) (fr : Nat × Nat) (n : Nat) (hc : cs = (zs.map v8).toArray) (hn : zs.length = n) (h1 : 1 ≤ n) (hs : n ≤ 1000) (hb : ∀ x ∈ zs, IsByte x)
    (hm : m ≤ L.length) (hr : (Frm.frs L).length + (8 + n) ≤ room) (hk : k ≤ 1000) :
    Calls Try.prog 8 #[optr bj, .slice (some ⟨w.heap.size, 0, none⟩) n n] (w.alloc (.cells cs 5 fr)) (UDone RD RJ w0 bd bj (mk (L ++ [zs]) m room (k + 1)) (L ++ [zs]) (i64v 0)) := by
  have h' := h.on D.held F.held ((Below.refl w.heap.size w).alloc (Nat.le_refl _) (.cells cs 5 fr))
  refine jappend_of F h' hL zs n _ n hn (lit_good w zs cs fr n hc hn hs hb) (fun _ a ha hm => ?_) ⟨by omega, by omega⟩ hm (by rw [hn]; exact hr) hk
  cases ha
  rcases List.mem_append.1 hm with hm | hm
  · exact Nat.lt_irrefl _ (D.held.low h.one _ hm)
  · exact Nat.lt_irrefl _ (F.held.low h.two _ hm)
end
end
section
set_option linter.unusedSimpArgs false
set_option linter.unusedVariables false
open Go.RowKit Sha Dsk Jrn
theorem rec_lit {l : List Int} (h1 : 1 ≤ l.length) (h2 : l.length ≤ 4000) (hb : ∀ x ∈ l, 0 ≤ x ∧ x ≤ 255) : Frm.Rec l ∧ Frm.Bytes l := ⟨⟨h1, h2⟩, hb⟩
theorem good_txt (w : World) (l : List ByteArray) (cs : Array Value) (n : Nat) (hc : cs = (l.map Value.string).toArray) (hn : l.length = n) (hs : n ≤ 1000) : GoodT (w.alloc (.cells cs 9)) l (some ⟨w.heap.size, 0, none⟩) n := by
  subst hc
  refine ⟨Or.inr ⟨w.heap.size, 0, rfl, fun i v hi => ?_⟩, by omega, by omega, fun h => by cases h⟩
  rw [Nat.zero_add, cell_of_row _ _ i (l.map Value.string).toArray _ (0, 0) (heap_alloc_new w _)]
  simpa using hi
/-- Texts made of literals: as records, in new memory. -/
def TextsDone (l : Rs) (w : World) (e : Ending) (w' : World) : Prop := ∃ p c bs, e = .returned (.slice p l.length c) ∧ RecsIn w' p l.length c l bs ∧ (∀ k ∈ bs, w.heap.size ≤ k) ∧ Below w.heap.size w w'
theorem texts_lit (w : World) (l : List ByteArray) (cs : Array Value) (n : Nat) (L : Rs) (hc : cs = (l.map Value.string).toArray) (hn : l.length = n) (hs : n ≤ 100) (hz : ∀ s ∈ l, s.size ≤ 1000) (hL : l.map nums = L) :
    Calls Try.prog 16 #[.slice (some ⟨w.heap.size, 0, none⟩) n n] (w.alloc (.cells cs 9)) (TextsDone L w) := by
  refine (texts_any l n _ n _ hn (good_txt w l cs n hc hn (by omega)) hs hz).mono ?_
  rintro e w' ⟨v, ys, rfl, hr, hy, hb⟩
  obtain ⟨p, c, bs, rfl, hi, hlow⟩ := hr.told
  have hl : ys.length = L.length := by rw [← hL, ← hy, List.length_map]
  rw [hy, hL, hl] at hi
  rw [hl]
  exact ⟨p, c, bs, rfl, hi, fun k hk => Nat.le_trans (by simp) (hlow k hk), ((Below.refl w.heap.size w).alloc (Nat.le_refl _) _).trans (hb.mono (by simp))⟩
theorem nums_a : [(⟨#[97]⟩ : ByteArray)].map nums = [[97]] := by decide +kernel
theorem frs_a1 : (Frm.frs ([[97]] : Rs)).length = 9 := by simp [Frm.frs_cons, Frm.frs_nil, Frm.fr_length]
theorem frs_ab : (Frm.frs ([[97], [98, 99]] : Rs)).length = 19 := by simp [Frm.frs_cons, Frm.frs_nil, Frm.fr_length]
theorem rec2_ab : Rec2 ([[97], [98, 99]] : Rs) := fun x hx => by
  simp only [List.mem_cons, List.not_mem_nil, or_false] at hx
  rcases hx with rfl | rfl
  · exact rec_lit (by simp) (by simp) (by simp)
  · exact rec_lit (by simp) (by simp) (by simp)
set_option maxRecDepth 100000 in
set_option maxHeartbeats 2000000 in
theorem awake_any {RD : DiskRep} {RJ : JRep} (D : DisksFew RD) (F : JournalOK RD RJ) (w : World) : Calls Try.prog 7 #[] w (SaysB (.bool true) w) := by
  have cv := fun w C n c => Go.Lib.run_convert_bytes_const (P := Try.prog) w 22 5 C n c Try.underlying22 Try.underlying5
  go_enter Try.func7, Try.ntmps7
  go_wp2_with fail
  refine (opens_any D F 100 100 w rfl (by omega)).mono ?_
  rintro e w1 ⟨bd, fd, bj, fj, rfl, hP⟩
  have P1 := Lib.hid hP
  clear hP
  go_wp2_with fail
  refine (jappend_lit D F P1.out (fun x hx => by simp at hx) [97] _ _ 1 rfl rfl (by omega) (by omega) (by intro x hx; simp at hx; exact ⟨by omega, by omega⟩) (by simp) (by simp [Frm.frs_nil]) (by omega)).mono ?_
  rintro e w2 ⟨rfl, fd2, fj2, hP⟩
  have P2 := Lib.hid hP
  clear hP P1
  go_wp2_with fail
  refine (jsync_of F P2.out (fun x hx => rec2_ab x (by simp at hx ⊢; exact .inl hx)) (by omega)).mono ?_
  rintro e w3 ⟨rfl, fd3, fj3, hP⟩
  have P3 := Lib.hid hP
  clear hP P2
  go_wp2_with fail
  refine (jappend_lit D F P3.out (fun x hx => rec2_ab x (by simp at hx ⊢; exact .inl hx)) [98, 99] _ _ 2 rfl rfl (by omega) (by omega) (by intro x hx; simp at hx; exact ⟨by omega, by omega⟩) (by simp) (by show (Frm.frs [[97]]).length + _ ≤ _; rw [frs_a1]; omega) (by omega)).mono ?_
  rintro e w4 ⟨rfl, fd4, fj4, hP⟩
  have P4 : Hid (Duo RD RJ w w4 bd fd4 (mk [[97], [98, 99]] 1 100 3) bj fj4 [[97], [98, 99]]) := Lib.hid hP
  clear hP P3
  go_wp2_with fail
  refine (jlen_of D F P4.out rec2_ab (by rw [frs_ab]; omega) 2 rfl).mono ?_
  rintro e w5 ⟨rfl, hP⟩
  have P5 := Lib.hid hP
  clear hP P4
  go_wp2_with fail
  refine (jfirm_of D F P5.out rec2_ab (by simp)).mono ?_
  rintro e w6 ⟨rfl, hP⟩
  have P6 := Lib.hid hP
  clear hP P5
  go_wp2_with fail
  refine (dcrash_of D P6.out 5 5 rfl (by omega)).mono ?_
  rintro e w7 ⟨rfl, fd7, hS⟩
  have S7 := Lib.hid hS
  clear hS P6
  go_wp2_with fail
  refine (topen_of F S7.out rec2_ab (by simp) (by rw [frs_ab]; omega) (by omega)).mono ?_
  rintro e w8 ⟨q, k', fd8, bk, fk, hq1, hq2, hk', hqn, rfl, hP⟩
  obtain rfl : q = 1 := by
    simp only [List.length_cons, List.length_nil] at hq2
    rcases Nat.lt_or_ge q 2 with h | h
    · omega
    · obtain rfl : q = 2 := by omega
      exfalso
      have h1 : (Frm.frs ([[97], [98, 99]] : Rs)).length ≤ (Frm.frs ([[97]] : Rs)).length + 5 := hqn
      rw [frs_ab, frs_a1] at h1; omega
  have P8 : Hid (Duo RD RJ w w8 bd fd8 (mk [[97]] 1 100 k') bk fk [[97]]) := Lib.hid hP
  clear hP S7 hq1 hq2 hqn hk'
  go_wp2_with fail
  refine (jall_of D F P8.out (fun x hx => rec2_ab x (by simp at hx ⊢; exact .inl hx)) (by rw [frs_a1]; omega)).mono ?_
  rintro e w9 ⟨p9, c9, bs9, rfl, hr, hn, hb, hP⟩
  have P9 := Lib.hid hP
  have R9 := Lib.hid hr
  clear hP hr hn hb P8
  go_wp2_with fail
  refine (texts_lit w9 [⟨#[97]⟩] _ 1 [[97]] rfl rfl (by omega) (by intro s hs; simp at hs; subst hs; decide) nums_a).mono ?_
  rintro e w10 ⟨p10, c10, bs10, rfl, hr, hn, hb⟩
  have P10 := Lib.hid (P9.out.on D.held F.held hb)
  have A10 := Lib.hid (R9.out.on hb).plain
  have R10 := Lib.hid hr.plain
  clear hr hn hb P9 R9
  go_wp2_with fail
  refine (recsSame_any _ _ _ _ _ _ _ _ w10 A10.out R10.out).mono ?_
  rintro e w11 ⟨rfl, hb⟩
  have P11 := Lib.hid (P10.out.on D.held F.held hb)
  clear hb
  go_wp2_with fail
  go_ret
  exact ⟨by simp, P11.out.below⟩
end
end Go.Proofs.Ythopfpfmliookaa
