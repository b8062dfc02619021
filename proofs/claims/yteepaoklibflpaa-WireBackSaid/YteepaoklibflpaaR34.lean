/-
  The wire package's lay: what a letter says is laid into the note (written by mknwj15.py).
-/
import Derived.Test.YteepaoklibflpaaR33
namespace Go.Proofs.Yteepaoklibflpaa
section
set_option linter.unusedSimpArgs false
set_option linter.unusedVariables false
open Go.RowKit Sha Nte
open Fld (Itm)
/-- A builder: what is left, whether something was wrong, the note so far; its rows are the call's own. -/
structure Bs (U : List Int → Option Addr → Nat → Prop) (w0 : World) (gb : Nat) (ys : List Hdr) (wr : Bool) (x : Not) (h : NHd) (w : World) : Prop where
  rd : Rd w0 gb ys wr (ncells x h) w
  ok : x.ok
  I : w.ownsRow w0.heap.size 27 32 (.slice h.r x.I.length h.d) x.I.length (x.I.flatMap (fun d => d.map v8))
  W : w.ownsRow w0.heap.size 67 3 (.slice h.s x.W.length h.e) x.W.length (x.W.flatMap nmc)
  X : GoodI w0 (iB x.X) h.q h.c
  U : U x.X h.q h.c
/-- What a letter's step leaves. -/
def Laid (U : List Int → Option Addr → Nat → Prop) (w0 : World) (gb : Nat) (ys : List Hdr) (wr : Bool) (x : Not) (h : NHd) (c : Int) (w : World) (e : Ending) (w' : World) : Prop :=
  e = .returned (.tuple #[]) ∧ ∃ h', Bs U w0 gb ys wr x h' w' ∧ (c ≠ 105 → h'.r = h.r ∧ h'.d = h.d) ∧ (c ≠ 119 → h'.s = h.s ∧ h'.e = h.e) ∧ Only gb w w'
structure LIn (U : List Int → Option Addr → Nat → Prop) (w0 : World) (gb : Nat) (hs ys : List Hdr) (wr : Bool) (x : Not) (h : NHd) (w : World) (z : Not) (v : Int) (c : Int) : Prop where
  bs : Bs U w0 gb (hs ++ ys) wr x h w
  its : hs.map (·.1) = itsR z v c
  ok : z.ok
  I0 : c = 105 → x.I = [] ∧ h.r = none ∧ h.d = 0
  W0 : c = 119 → x.W = [] ∧ h.s = none ∧ h.e = 0
  Il : z.I.length ≤ 4000
  Wl : z.W.length ≤ 4000
  us : ∀ y ∈ hs, U y.1.B y.2.1 y.2.2
theorem Bs.kept {U : List Int → Option Addr → Nat → Prop} {w0 w w' : World} {gb : Nat} {ys ys' : List Hdr} {wr wr' : Bool} {x x' : Not} {h : NHd} (b : Bs U w0 gb ys wr x h w) (o : Only gb w w') (r : Rd w0 gb ys' wr' (ncells x' h) w') (hk : x'.ok) (hI : x'.I = x.I) (hW : x'.W = x.W) (hX : x'.X = x.X) : Bs U w0 gb ys' wr' x' h w' := by
  obtain ⟨cs, bk⟩ := b.rd.blk
  exact ⟨r, hk, by rw [hI]; exact row_only b.I bk id_ne_b o, by rw [hW]; exact row_only b.W bk word_ne_b o, by rw [hX]; exact b.X, by rw [hX]; exact b.U⟩
theorem setR_ok {z x : Not} (hz : z.ok) (hx : x.ok) (v c : Int) : (setR z v x c).ok := by
  unfold setR
  split
  · exact ⟨hx.K, hx.F, hx.T, hx.C, hx.S, hx.H, hx.B, hx.O, hx.D, hx.len, hx.X, hx.Xl, hx.I, hx.Il, hx.W, hx.Wl⟩
  · exact setf_ok hz hx c
theorem hdc {hs : List Hdr} {a : Itm} {l : List Itm} (h : hs.map (·.1) = a :: l) : ∃ y zs, hs = y :: zs ∧ y.1 = a ∧ zs.map (·.1) = l := by
  cases hs with
  | nil => simp at h
  | cons y zs =>
    simp only [List.map_cons, List.cons.injEq] at h
    exact ⟨y, zs, rfl, h.1, h.2⟩
theorem hd1 {hs : List Hdr} {a : Itm} (h : hs.map (·.1) = [a]) : ∃ y, hs = [y] ∧ y.1 = a := by
  obtain ⟨y, zs, rfl, h1, h2⟩ := hdc h
  exact ⟨y, by rw [List.map_eq_nil_iff.1 h2], h1⟩
theorem hd2 {hs : List Hdr} {a b : Itm} (h : hs.map (·.1) = [a, b]) : ∃ y z, hs = [y, z] ∧ y.1 = a ∧ z.1 = b := by
  obtain ⟨y, zs, rfl, h1, h2⟩ := hdc h
  obtain ⟨z, rfl, h3⟩ := hd1 h2
  exact ⟨y, z, rfl, h1, h3⟩
theorem hd3 {hs : List Hdr} {a b c : Itm} (h : hs.map (·.1) = [a, b, c]) : ∃ y z u, hs = [y, z, u] ∧ y.1 = a ∧ z.1 = b ∧ u.1 = c := by
  obtain ⟨y, zs, rfl, h1, h2⟩ := hdc h
  obtain ⟨z, u, rfl, h3, h4⟩ := hd2 h2
  exact ⟨y, z, u, rfl, h1, h3, h4⟩
theorem iN_of {y : Hdr} {n : Int} (h : y.1 = iN n) : y.1.N = n := by rw [h]; rfl
set_option maxRecDepth 100000 in
set_option maxHeartbeats 1000000 in
theorem wlay_call (U : List Int → Option Addr → Nat → Prop) (w0 : World) (gb : Nat) (hs ys : List Hdr) (wr : Bool) (x : Not) (h : NHd) (w : World) (z : Not) (v : Int) (hi : LIn U w0 gb hs ys wr x h w z v 99) :
    Calls Try.prog 38 #[.pointer (some ⟨gb, 0, none⟩), .int .i32 99] w (Laid U w0 gb ys (wr || !decide (okR z v 99)) (setR z v x 99) h 99 w) := by
  have hit : hs.map (·.1) = [iN z.C1, iN z.C2, iN z.C3] := hi.its
  obtain ⟨y1, y2, y3, rfl, e1, e2, e3⟩ : ∃ y1 y2 y3 : Hdr, hs = [y1, y2, y3] ∧ y1.1.N = z.C1 ∧ y2.1.N = z.C2 ∧ y3.1.N = z.C3 := by
    obtain ⟨y1, y2, y3, rfl, q1, q2, q3⟩ := hd3 hit
    exact ⟨y1, y2, y3, rfl, iN_of q1, iN_of q2, iN_of q3⟩
  have HB := Lib.hid hi.bs
  have HR := Lib.hid (show Rd w0 gb (y1 :: y2 :: y3 :: ys) wr (ncells x h) w from hi.bs.rd)
  have HK := Lib.hid (setR_ok hi.ok hi.bs.ok v 99)
  have HC := Lib.hid (wcall_any w0 gb y1 y2 y3 ys wr x h w HR)
  rw [e1, e2, e3] at HC
  clear hi hit
  go_enter Try.func38, Try.ntmps38
  go_wp2_with fail
  refine HC.out.mono ?_
  rintro e w1 ⟨rfl, hr1, ho1⟩
  have BS := Lib.hid (show Bs U w0 gb ys (wr || !decide (okR z v 99)) (setR z v x 99) h w1 from HB.out.kept ho1 hr1 HK.out rfl rfl rfl)
  have HO := Lib.hid ho1
  clear hr1 ho1 HC
  go_wp2_with fail
  go_end0
  exact ⟨rfl, h, BS.out, fun _ => ⟨rfl, rfl⟩, fun _ => ⟨rfl, rfl⟩, HO.out⟩
set_option maxRecDepth 100000 in
set_option maxHeartbeats 1000000 in
theorem wlay_set (U : List Int → Option Addr → Nat → Prop) (w0 : World) (gb : Nat) (hs ys : List Hdr) (wr : Bool) (x : Not) (h : NHd) (w : World) (z : Not) (v : Int) (hi : LIn U w0 gb hs ys wr x h w z v 115) :
    Calls Try.prog 38 #[.pointer (some ⟨gb, 0, none⟩), .int .i32 115] w (Laid U w0 gb ys (wr || !decide (okR z v 115)) (setR z v x 115) h 115 w) := by
  have hit : hs.map (·.1) = [iN z.S] := hi.its
  obtain ⟨y1, rfl, e1⟩ : ∃ y1 : Hdr, hs = [y1] ∧ y1.1.N = z.S := by
    obtain ⟨y1, rfl, q1⟩ := hd1 hit
    exact ⟨y1, rfl, iN_of q1⟩
  have HB := Lib.hid hi.bs
  have HR := Lib.hid (show Rd w0 gb (y1 :: ys) wr (ncells x h) w from hi.bs.rd)
  have HK := Lib.hid (setR_ok hi.ok hi.bs.ok v 115)
  have HC := Lib.hid (wset_any w0 gb y1 ys wr x h w HR.out)
  rw [e1] at HC
  clear hi hit
  go_enter Try.func38, Try.ntmps38
  go_wp2_with fail
  refine HC.out.mono ?_
  rintro e w1 ⟨rfl, hr1, ho1⟩
  have BS := Lib.hid (show Bs U w0 gb ys (wr || !decide (okR z v 115)) (setR z v x 115) h w1 from HB.out.kept ho1 hr1 HK.out rfl rfl rfl)
  have HO := Lib.hid ho1
  clear hr1 ho1 HC
  go_wp2_with fail
  go_end0
  exact ⟨rfl, h, BS.out, fun _ => ⟨rfl, rfl⟩, fun _ => ⟨rfl, rfl⟩, HO.out⟩
set_option maxRecDepth 100000 in
set_option maxHeartbeats 1000000 in
theorem wlay_home (U : List Int → Option Addr → Nat → Prop) (w0 : World) (gb : Nat) (hs ys : List Hdr) (wr : Bool) (x : Not) (h : NHd) (w : World) (z : Not) (v : Int) (hi : LIn U w0 gb hs ys wr x h w z v 104) :
    Calls Try.prog 38 #[.pointer (some ⟨gb, 0, none⟩), .int .i32 104] w (Laid U w0 gb ys (wr || !decide (okR z v 104)) (setR z v x 104) h 104 w) := by
  have hit : hs.map (·.1) = [iN z.H] := hi.its
  obtain ⟨y1, rfl, e1⟩ : ∃ y1 : Hdr, hs = [y1] ∧ y1.1.N = z.H := by
    obtain ⟨y1, rfl, q1⟩ := hd1 hit
    exact ⟨y1, rfl, iN_of q1⟩
  have HB := Lib.hid hi.bs
  have HR := Lib.hid (show Rd w0 gb (y1 :: ys) wr (ncells x h) w from hi.bs.rd)
  have HK := Lib.hid (setR_ok hi.ok hi.bs.ok v 104)
  have HC := Lib.hid (whome_any w0 gb y1 ys wr x h w HR.out)
  rw [e1] at HC
  clear hi hit
  go_enter Try.func38, Try.ntmps38
  go_wp2_with fail
  refine HC.out.mono ?_
  rintro e w1 ⟨rfl, hr1, ho1⟩
  have BS := Lib.hid (show Bs U w0 gb ys (wr || !decide (okR z v 104)) (setR z v x 104) h w1 from HB.out.kept ho1 hr1 HK.out rfl rfl rfl)
  have HO := Lib.hid ho1
  clear hr1 ho1 HC
  go_wp2_with fail
  go_end0
  exact ⟨rfl, h, BS.out, fun _ => ⟨rfl, rfl⟩, fun _ => ⟨rfl, rfl⟩, HO.out⟩
set_option maxRecDepth 100000 in
set_option maxHeartbeats 1000000 in
theorem wlay_ballot (U : List Int → Option Addr → Nat → Prop) (w0 : World) (gb : Nat) (hs ys : List Hdr) (wr : Bool) (x : Not) (h : NHd) (w : World) (z : Not) (v : Int) (hi : LIn U w0 gb hs ys wr x h w z v 98) :
    Calls Try.prog 38 #[.pointer (some ⟨gb, 0, none⟩), .int .i32 98] w (Laid U w0 gb ys (wr || !decide (okR z v 98)) (setR z v x 98) h 98 w) := by
  have hit : hs.map (·.1) = [iN z.B1, iN z.B2] := hi.its
  obtain ⟨y1, y2, rfl, e1, e2⟩ : ∃ y1 y2 : Hdr, hs = [y1, y2] ∧ y1.1.N = z.B1 ∧ y2.1.N = z.B2 := by
    obtain ⟨y1, y2, rfl, q1, q2⟩ := hd2 hit
    exact ⟨y1, y2, rfl, iN_of q1, iN_of q2⟩
  have HB := Lib.hid hi.bs
  have HR := Lib.hid (show Rd w0 gb (y1 :: y2 :: ys) wr (ncells x h) w from hi.bs.rd)
  have HK := Lib.hid (setR_ok hi.ok hi.bs.ok v 98)
  have HC := Lib.hid (wballot_any w0 gb y1 y2 ys wr x h w HR.out)
  rw [e1, e2] at HC
  clear hi hit
  go_enter Try.func38, Try.ntmps38
  go_wp2_with fail
  refine HC.out.mono ?_
  rintro e w1 ⟨rfl, hr1, ho1⟩
  have BS := Lib.hid (show Bs U w0 gb ys (wr || !decide (okR z v 98)) (setR z v x 98) h w1 from HB.out.kept ho1 hr1 HK.out rfl rfl rfl)
  have HO := Lib.hid ho1
  clear hr1 ho1 HC
  go_wp2_with fail
  go_end0
  exact ⟨rfl, h, BS.out, fun _ => ⟨rfl, rfl⟩, fun _ => ⟨rfl, rfl⟩, HO.out⟩
set_option maxRecDepth 100000 in
set_option maxHeartbeats 1000000 in
theorem wlay_other (U : List Int → Option Addr → Nat → Prop) (w0 : World) (gb : Nat) (hs ys : List Hdr) (wr : Bool) (x : Not) (h : NHd) (w : World) (z : Not) (v : Int) (hi : LIn U w0 gb hs ys wr x h w z v 111) :
    Calls Try.prog 38 #[.pointer (some ⟨gb, 0, none⟩), .int .i32 111] w (Laid U w0 gb ys (wr || !decide (okR z v 111)) (setR z v x 111) h 111 w) := by
  have hit : hs.map (·.1) = [iN z.O1, iN z.O2] := hi.its
  obtain ⟨y1, y2, rfl, e1, e2⟩ : ∃ y1 y2 : Hdr, hs = [y1, y2] ∧ y1.1.N = z.O1 ∧ y2.1.N = z.O2 := by
    obtain ⟨y1, y2, rfl, q1, q2⟩ := hd2 hit
    exact ⟨y1, y2, rfl, iN_of q1, iN_of q2⟩
  have HB := Lib.hid hi.bs
  have HR := Lib.hid (show Rd w0 gb (y1 :: y2 :: ys) wr (ncells x h) w from hi.bs.rd)
  have HK := Lib.hid (setR_ok hi.ok hi.bs.ok v 111)
  have HC := Lib.hid (wother_any w0 gb y1 y2 ys wr x h w HR.out)
  rw [e1, e2] at HC
  clear hi hit
  go_enter Try.func38, Try.ntmps38
  go_wp2_with fail
  refine HC.out.mono ?_
  rintro e w1 ⟨rfl, hr1, ho1⟩
  have BS := Lib.hid (show Bs U w0 gb ys (wr || !decide (okR z v 111)) (setR z v x 111) h w1 from HB.out.kept ho1 hr1 HK.out rfl rfl rfl)
  have HO := Lib.hid ho1
  clear hr1 ho1 HC
  go_wp2_with fail
  go_end0
  exact ⟨rfl, h, BS.out, fun _ => ⟨rfl, rfl⟩, fun _ => ⟨rfl, rfl⟩, HO.out⟩
set_option maxRecDepth 100000 in
set_option maxHeartbeats 1000000 in
theorem wlay_yes (U : List Int → Option Addr → Nat → Prop) (w0 : World) (gb : Nat) (hs ys : List Hdr) (wr : Bool) (x : Not) (h : NHd) (w : World) (z : Not) (v : Int) (hi : LIn U w0 gb hs ys wr x h w z v 121) :
    Calls Try.prog 38 #[.pointer (some ⟨gb, 0, none⟩), .int .i32 121] w (Laid U w0 gb ys (wr || !decide (okR z v 121)) (setR z v x 121) h 121 w) := by
  have hit : hs.map (·.1) = [iN v] := hi.its
  obtain ⟨y1, rfl, e1⟩ : ∃ y1 : Hdr, hs = [y1] ∧ y1.1.N = v := by
    obtain ⟨y1, rfl, q1⟩ := hd1 hit
    exact ⟨y1, rfl, iN_of q1⟩
  have HB := Lib.hid hi.bs
  have HR := Lib.hid (show Rd w0 gb (y1 :: ys) wr (ncells x h) w from hi.bs.rd)
  have HK := Lib.hid (setR_ok hi.ok hi.bs.ok v 121)
  have HC := Lib.hid (wyes_any w0 gb y1 ys wr x h w HR)
  rw [e1] at HC
  clear hi hit
  go_enter Try.func38, Try.ntmps38
  go_wp2_with fail
  refine HC.out.mono ?_
  rintro e w1 ⟨rfl, hr1, ho1⟩
  have BS := Lib.hid (show Bs U w0 gb ys (wr || !decide (okR z v 121)) (setR z v x 121) h w1 from HB.out.kept ho1 hr1 HK.out rfl rfl rfl)
  have HO := Lib.hid ho1
  clear hr1 ho1 HC
  go_wp2_with fail
  go_end0
  exact ⟨rfl, h, BS.out, fun _ => ⟨rfl, rfl⟩, fun _ => ⟨rfl, rfl⟩, HO.out⟩
theorem or_true (wr : Bool) {q : Prop} [Decidable q] (h : q) : (wr || !decide q) = wr := by simp [h]
set_option maxRecDepth 100000 in
set_option maxHeartbeats 1000000 in
theorem wlay_id (U : List Int → Option Addr → Nat → Prop) (w0 : World) (gb : Nat) (hs ys : List Hdr) (wr : Bool) (x : Not) (h : NHd) (w : World) (z : Not) (v : Int) (hi : LIn U w0 gb hs ys wr x h w z v 100) :
    Calls Try.prog 38 #[.pointer (some ⟨gb, 0, none⟩), .int .i32 100] w (Laid U w0 gb ys (wr || !decide (okR z v 100)) (setR z v x 100) h 100 w) := by
  have hit : hs.map (·.1) = [iD z.D] := hi.its
  obtain ⟨y1, rfl, e1⟩ : ∃ y1 : Hdr, hs = [y1] ∧ y1.1.D = z.D := by
    obtain ⟨y1, rfl, q1⟩ := hd1 hit
    exact ⟨y1, rfl, by rw [q1]; rfl⟩
  rw [or_true wr (show okR z v 100 from trivial)]
  have HB := Lib.hid hi.bs
  have HR := Lib.hid (show Rd w0 gb (y1 :: ys) wr (ncells x h) w from hi.bs.rd)
  have HK := Lib.hid (setR_ok hi.ok hi.bs.ok v 100)
  have HC := Lib.hid (wid_any w0 gb y1 ys wr x h w hi.bs.ok.len HR.out)
  rw [e1] at HC
  clear hi hit
  go_enter Try.func38, Try.ntmps38
  go_wp2_with fail
  refine HC.out.mono ?_
  rintro e w1 ⟨rfl, hr1, ho1⟩
  have BS := Lib.hid (show Bs U w0 gb ys wr (setR z v x 100) h w1 from HB.out.kept ho1 hr1 HK.out rfl rfl rfl)
  have HO := Lib.hid ho1
  clear hr1 ho1 HC
  go_wp2_with fail
  go_end0
  exact ⟨rfl, h, BS.out, fun _ => ⟨rfl, rfl⟩, fun _ => ⟨rfl, rfl⟩, HO.out⟩
set_option maxRecDepth 100000 in
set_option maxHeartbeats 1000000 in
theorem wlay_data (U : List Int → Option Addr → Nat → Prop) (w0 : World) (gb : Nat) (hs ys : List Hdr) (wr : Bool) (x : Not) (h : NHd) (w : World) (z : Not) (v : Int) (hi : LIn U w0 gb hs ys wr x h w z v 120) :
    Calls Try.prog 38 #[.pointer (some ⟨gb, 0, none⟩), .int .i32 120] w (Laid U w0 gb ys (wr || !decide (okR z v 120)) (setR z v x 120) h 120 w) := by
  have hit : hs.map (·.1) = [iB z.X] := hi.its
  obtain ⟨y1, rfl, e1⟩ : ∃ y1 : Hdr, hs = [y1] ∧ y1.1 = iB z.X := by
    exact hd1 hit
  rw [or_true wr (show okR z v 120 from trivial)]
  have HB := Lib.hid hi.bs
  have HR := Lib.hid (show Rd w0 gb (y1 :: ys) wr (ncells x h) w from hi.bs.rd)
  have HK := Lib.hid (setR_ok hi.ok hi.bs.ok v 120)
  have HC := Lib.hid (wdata_any w0 gb y1 ys wr x h w hi.bs.ok.len HR.out)
  have HG := Lib.hid (show GoodI w0 (iB z.X) y1.2.1 y1.2.2 from by
    obtain ⟨⟨_, _, _, hL, _⟩, _, _⟩ := HR.out
    rw [← e1]; exact hL.good _ (List.mem_cons_self ..))
  have HU := Lib.hid (show U z.X y1.2.1 y1.2.2 from by
    have := hi.us y1 (List.mem_cons_self ..)
    rw [e1] at this; exact this)
  rw [e1] at HC
  clear hi hit
  go_enter Try.func38, Try.ntmps38
  go_wp2_with fail
  refine HC.out.mono ?_
  rintro e w1 ⟨rfl, hr1, ho1⟩
  have BS := Lib.hid (show Bs U w0 gb ys wr (setR z v x 120) { h with q := y1.2.1, c := y1.2.2 } w1 from by
    obtain ⟨cs, bk⟩ := HB.out.rd.blk
    exact ⟨hr1, HK.out, row_only HB.out.I bk id_ne_b ho1, row_only HB.out.W bk word_ne_b ho1, HG.out, HU.out⟩)
  have HO := Lib.hid ho1
  clear hr1 ho1 HC
  go_wp2_with fail
  go_end0
  exact ⟨rfl, { h with q := y1.2.1, c := y1.2.2 }, BS.out, fun _ => ⟨rfl, rfl⟩, fun _ => ⟨rfl, rfl⟩, HO.out⟩
theorem ids_hdrs : ∀ (l : List (List Int)) (hs : List Hdr), hs.map (·.1) = l.flatMap (fun d => [iD d]) → hs.map (fun y => y.1.D) = l ∧ hs.length = l.length
  | [], hs, h => by
    have : hs = [] := by simpa using h
    subst this; exact ⟨rfl, rfl⟩
  | d :: l, [], h => by simp at h
  | d :: l, y :: hs, h => by
    simp only [List.map_cons, List.flatMap_cons, List.singleton_append, List.cons.injEq] at h
    obtain ⟨h1, h2⟩ := ids_hdrs l hs h.2
    exact ⟨by simp only [List.map_cons, h1, h.1]; rfl, by simp [h2]⟩
theorem words_hdrs : ∀ (l : List Mb) (hs : List Hdr), hs.map (·.1) = l.flatMap w3 → ∃ ts : List (Hdr × Hdr × Hdr), hs = ts.flatMap w3H ∧ ts.map (fun t : Hdr × Hdr × Hdr => (⟨t.1.1.N, t.2.1.1.N, t.2.2.1.N⟩ : Mb)) = l
  | [], hs, h => by
    have : hs = [] := by simpa using h
    subst this; exact ⟨[], rfl, rfl⟩
  | m :: l, hs, h => by
    rw [List.flatMap_cons] at h
    match hs, h with
    | y1 :: y2 :: y3 :: hs, h =>
      simp only [List.map_cons, w3, List.cons_append, List.nil_append, List.cons.injEq] at h
      obtain ⟨a, b, c, h⟩ := h
      obtain ⟨ts, rfl, h2⟩ := words_hdrs l hs h
      refine ⟨(y1, y2, y3) :: ts, by simp [w3H], ?_⟩
      simp only [List.map_cons, h2, a, b, c]
      rfl
    | [], h => simp [w3] at h
    | [_], h => simp [w3] at h
    | [_, _], h => simp [w3] at h
set_option maxRecDepth 100000 in
set_option maxHeartbeats 1000000 in
theorem wlay_ids (U : List Int → Option Addr → Nat → Prop) (w0 : World) (gb : Nat) (hs ys : List Hdr) (wr : Bool) (x : Not) (h : NHd) (w : World) (z : Not) (v : Int) (hi : LIn U w0 gb hs ys wr x h w z v 105) :
    Calls Try.prog 38 #[.pointer (some ⟨gb, 0, none⟩), .int .i32 105] w (Laid U w0 gb ys (wr || !decide (okR z v 105)) (setR z v x 105) h 105 w) := by
  have hit : hs.map (·.1) = iN z.I.length :: z.I.flatMap (fun d => [iD d]) := hi.its
  obtain ⟨y1, zs, rfl, e1, e2, e3⟩ : ∃ (y1 : Hdr) (zs : List Hdr), hs = y1 :: zs ∧ y1.1.N = zs.length ∧ zs.map (fun y => y.1.D) = z.I ∧ zs.length = z.I.length := by
    obtain ⟨y1, zs, rfl, q1, q2⟩ := hdc hit
    obtain ⟨h1, h2⟩ := ids_hdrs _ _ q2
    exact ⟨y1, zs, rfl, by rw [iN_of q1, h2], h1, h2⟩
  have HB := Lib.hid hi.bs
  have HK := Lib.hid (setR_ok hi.ok hi.bs.ok v 105)
  have HC := Lib.hid (wids_any w0 gb y1 zs ys wr x h w hi.bs.ok.len e1 (by rw [e3]; exact hi.Il) (hi.I0 rfl).1 (hi.I0 rfl).2 hi.bs.rd)
  rw [e2, e3] at HC
  clear hi hit
  go_enter Try.func38, Try.ntmps38
  go_wp2_with fail
  refine HC.out.mono ?_
  rintro e w1 ⟨rfl, q, c, hr1, hw1, ho1⟩
  have BS := Lib.hid (show Bs U w0 gb ys (wr || !decide (okR z v 105)) (setR z v x 105) { h with r := q, d := c } w1 from by
    obtain ⟨cs, bk⟩ := HB.out.rd.blk
    exact ⟨hr1, HK.out, hw1, row_only HB.out.W bk word_ne_b ho1, HB.out.X, HB.out.U⟩)
  have HO := Lib.hid ho1
  clear hr1 ho1 hw1 HC
  go_wp2_with fail
  go_end0
  exact ⟨rfl, { h with r := q, d := c }, BS.out, fun e => absurd rfl e, fun _ => ⟨rfl, rfl⟩, HO.out⟩
theorem or_and (wr : Bool) (p q : Prop) [Decidable p] [Decidable q] : ((wr || !decide p) || !decide q) = (wr || !decide (p ∧ q)) := by
  cases wr
  · by_cases h1 : p <;> by_cases h2 : q <;> simp [h1, h2]
  · rfl
set_option maxRecDepth 100000 in
set_option maxHeartbeats 1000000 in
theorem wlay_words (U : List Int → Option Addr → Nat → Prop) (w0 : World) (gb : Nat) (hs ys : List Hdr) (wr : Bool) (x : Not) (h : NHd) (w : World) (z : Not) (v : Int) (hi : LIn U w0 gb hs ys wr x h w z v 119) :
    Calls Try.prog 38 #[.pointer (some ⟨gb, 0, none⟩), .int .i32 119] w (Laid U w0 gb ys (wr || !decide (okR z v 119)) (setR z v x 119) h 119 w) := by
  have hit : hs.map (·.1) = iN z.W.length :: z.W.flatMap w3 := hi.its
  obtain ⟨y1, zs, rfl, e1, e2, e3⟩ : ∃ (y1 : Hdr) (zs : List (Hdr × Hdr × Hdr)), hs = y1 :: zs.flatMap w3H ∧ y1.1.N = zs.length ∧ zs.map (fun t : Hdr × Hdr × Hdr => (⟨t.1.1.N, t.2.1.1.N, t.2.2.1.N⟩ : Mb)) = z.W ∧ zs.length = z.W.length := by
    obtain ⟨y1, zs, rfl, q1, q2⟩ := hdc hit
    obtain ⟨ts, h1, h2⟩ := words_hdrs _ _ q2
    have h3 : ts.length = z.W.length := by rw [← h2, List.length_map]
    exact ⟨y1, ts, by rw [h1], by rw [iN_of q1, h3], h2, h3⟩
  have HB := Lib.hid hi.bs
  have HK := Lib.hid (setR_ok hi.ok hi.bs.ok v 119)
  have HC := Lib.hid (wwords_any w0 gb y1 zs ys wr x h w hi.bs.ok.len e1 (by rw [e3]; exact hi.Wl) (hi.W0 rfl).1 (hi.W0 rfl).2 hi.bs.rd)
  rw [e2, e3, or_and] at HC
  clear hi hit
  go_enter Try.func38, Try.ntmps38
  go_wp2_with fail
  refine HC.out.mono ?_
  rintro e w1 ⟨rfl, q, c, hr1, hw1, ho1⟩
  have BS := Lib.hid (show Bs U w0 gb ys (wr || !decide (okR z v 119)) (setR z v x 119) { h with s := q, e := c } w1 from by
    obtain ⟨cs, bk⟩ := HB.out.rd.blk
    exact ⟨hr1, HK.out, row_only HB.out.I bk id_ne_b ho1, hw1, HB.out.X, HB.out.U⟩)
  have HO := Lib.hid ho1
  clear hr1 ho1 hw1 HC
  go_wp2_with fail
  go_end0
  exact ⟨rfl, { h with s := q, e := c }, BS.out, fun _ => ⟨rfl, rfl⟩, fun e => absurd rfl e, HO.out⟩
theorem wlay_any (U : List Int → Option Addr → Nat → Prop) (w0 : World) (gb : Nat) (hs ys : List Hdr) (wr : Bool) (x : Not) (h : NHd) (w : World) (z : Not) (v c : Int) (hc : isT c) (hi : LIn U w0 gb hs ys wr x h w z v c) :
    Calls Try.prog 38 #[.pointer (some ⟨gb, 0, none⟩), .int .i32 c] w (Laid U w0 gb ys (wr || !decide (okR z v c)) (setR z v x c) h c w) := by
  rcases hc with rfl | rfl | rfl | rfl | rfl | rfl | rfl | rfl | rfl | rfl
  · exact wlay_call U w0 gb hs ys wr x h w z v hi
  · exact wlay_ballot U w0 gb hs ys wr x h w z v hi
  · exact wlay_other U w0 gb hs ys wr x h w z v hi
  · exact wlay_id U w0 gb hs ys wr x h w z v hi
  · exact wlay_data U w0 gb hs ys wr x h w z v hi
  · exact wlay_ids U w0 gb hs ys wr x h w z v hi
  · exact wlay_words U w0 gb hs ys wr x h w z v hi
  · exact wlay_set U w0 gb hs ys wr x h w z v hi
  · exact wlay_home U w0 gb hs ys wr x h w z v hi
  · exact wlay_yes U w0 gb hs ys wr x h w z v hi
end
end Go.Proofs.Yteepaoklibflpaa
