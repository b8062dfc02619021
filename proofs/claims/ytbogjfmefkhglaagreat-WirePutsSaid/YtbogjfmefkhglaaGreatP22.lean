/-
  The wire package's lay: what a letter says is laid into the note (written by mknwj15.py).
  The wire package's agrees: what has to be empty is empty.
  The wire package's note: what items come to, and whether it may be.
-/
import Derived.Test.YtbogjfmefkhglaaGreatP21
namespace Go.Proofs.YtbogjfmefkhglaaGreat
section
set_option linter.unusedSimpArgs false
set_option linter.unusedVariables false
open Go.RowKit Sha Nte
open Fld (Itm)
/-- A builder: what is left, whether something was wrong, the note so far; its rows are the call's own. -/
structure Bs (U : List Int → Option Addr → Nat → Prop) (w0 : World) (gb : Nat) (ys : List Hdr) (wr : Bool) (x : Not) (h : NHd) (w : World) : Prop where
  rd : Rd w0 gb ys wr (ncells x h) w
  ok : x.ok
  I : w.ownsRow w0.heap.size 27 32 (.slice h.r x.I.length h.d) x.I.length (x.I.flatMap (fun d => d.map v8))
  W : w.ownsRow w0.heap.size 57 3 (.slice h.s x.W.length h.e) x.W.length (x.W.flatMap nmc)
  X : GoodI w0 (iB x.X) h.q h.c
  U : U x.X h.q h.c
/-- What a letter's step leaves. -/
def Laid (U : List Int → Option Addr → Nat → Prop) (w0 : World) (gb : Nat) (ys : List Hdr) (wr : Bool) (x : Not) (h : NHd) (c : Int) (w : World) (e : Ending) (w' : World) : Prop :=
  e = .returned (.tuple #[]) ∧ ∃ h', Bs U w0 gb ys wr x h' w' ∧ (c ≠ 105 → h'.r = h.r ∧ h'.d = h.d) ∧ (c ≠ 119 → h'.s = h.s ∧ h'.e = h.e) ∧ Only gb w w'
structure LIn (U : List Int → Option Addr → Nat → Prop) (w0 : World) (gb : Nat) (hs ys : List Hdr) (wr : Bool) (x : Not) (h : NHd) (w : World) (z : Not) (v : Int) (c : Int) : Prop where
  bs : Bs U w0 gb (hs ++ ys) wr x h w
  its : hs.map (·.1) = itsR z v c
  ok : z.ok
  I0 : c = 105 → x.I = [] ∧ h.r = none ∧ h.d = 0
  W0 : c = 119 → x.W = [] ∧ h.s = none ∧ h.e = 0
  Il : z.I.length ≤ 4000
  Wl : z.W.length ≤ 4000
  us : ∀ y ∈ hs, U y.1.B y.2.1 y.2.2
theorem Bs.kept {U : List Int → Option Addr → Nat → Prop} {w0 w w' : World} {gb : Nat} {ys ys' : List Hdr} {wr wr' : Bool} {x x' : Not} {h : NHd} (b : Bs U w0 gb ys wr x h w) (o : Only gb w w') (r : Rd w0 gb ys' wr' (ncells x' h) w') (hk : x'.ok) (hI : x'.I = x.I) (hW : x'.W = x.W) (hX : x'.X = x.X) : Bs U w0 gb ys' wr' x' h w' := by
  obtain ⟨cs, bk⟩ := b.rd.blk
  exact ⟨r, hk, by rw [hI]; exact row_only b.I bk id_ne_b o, by rw [hW]; exact row_only b.W bk word_ne_b o, by rw [hX]; exact b.X, by rw [hX]; exact b.U⟩
theorem setR_ok {z x : Not} (hz : z.ok) (hx : x.ok) (v c : Int) : (setR z v x c).ok := by
  unfold setR
  split
  · exact ⟨hx.K, hx.F, hx.T, hx.C, hx.S, hx.H, hx.B, hx.O, hx.D, hx.len, hx.X, hx.Xl, hx.I, hx.Il, hx.W, hx.Wl⟩
  · exact setf_ok hz hx c
theorem hdc {hs : List Hdr} {a : Itm} {l : List Itm} (h : hs.map (·.1) = a :: l) : ∃ y zs, hs = y :: zs ∧ y.1 = a ∧ zs.map (·.1) = l := by
  cases hs with
  | nil => simp at h
  | cons y zs =>
    simp only [List.map_cons, List.cons.injEq] at h
    exact ⟨y, zs, rfl, h.1, h.2⟩
theorem hd1 {hs : List Hdr} {a : Itm} (h : hs.map (·.1) = [a]) : ∃ y, hs = [y] ∧ y.1 = a := by
  obtain ⟨y, zs, rfl, h1, h2⟩ := hdc h
  exact ⟨y, by rw [List.map_eq_nil_iff.1 h2], h1⟩
theorem hd2 {hs : List Hdr} {a b : Itm} (h : hs.map (·.1) = [a, b]) : ∃ y z, hs = [y, z] ∧ y.1 = a ∧ z.1 = b := by
  obtain ⟨y, zs, rfl, h1, h2⟩ := hdc h
  obtain ⟨z, rfl, h3⟩ := hd1 h2
  exact ⟨y, z, rfl, h1, h3⟩
theorem hd3 {hs : List Hdr} {a b c : Itm} (h : hs.map (·.1) = [a, b, c]) : ∃ y z u, hs = [y, z, u] ∧ y.1 = a ∧ z.1 = b ∧ u.1 = c := by
  obtain ⟨y, zs, rfl, h1, h2⟩ := hdc h
  obtain ⟨z, u, rfl, h3, h4⟩ := hd2 h2
  exact ⟨y, z, u, rfl, h1, h3, h4⟩
theorem iN_of {y : Hdr} {n : Int} (h : y.1 = iN n) : y.1.N = n := by rw [h]; rfl
set_option maxRecDepth 100000 in
set_option maxHeartbeats 1000000 in
theorem wlay_call (U : List Int → Option Addr → Nat → Prop) (w0 : World) (gb : Nat) (hs ys : List Hdr) (wr : Bool) (x : Not) (h : NHd) (w : World) (z : Not) (v : Int) (hi : LIn U w0 gb hs ys wr x h w z v 99) :
    Calls Tryz.prog 72 #[.pointer (some ⟨gb, 0, none⟩), .int .i32 99] w (Laid U w0 gb ys (wr || !decide (okR z v 99)) (setR z v x 99) h 99 w) := by
  have hit : hs.map (·.1) = [iN z.C1, iN z.C2, iN z.C3] := hi.its
  obtain ⟨y1, y2, y3, rfl, e1, e2, e3⟩ : ∃ y1 y2 y3 : Hdr, hs = [y1, y2, y3] ∧ y1.1.N = z.C1 ∧ y2.1.N = z.C2 ∧ y3.1.N = z.C3 := by
    obtain ⟨y1, y2, y3, rfl, q1, q2, q3⟩ := hd3 hit
    exact ⟨y1, y2, y3, rfl, iN_of q1, iN_of q2, iN_of q3⟩
  have HB := Lib.hid hi.bs
  have HR := Lib.hid (show Rd w0 gb (y1 :: y2 :: y3 :: ys) wr (ncells x h) w from hi.bs.rd)
  have HK := Lib.hid (setR_ok hi.ok hi.bs.ok v 99)
  have HC := Lib.hid (wcall_any w0 gb y1 y2 y3 ys wr x h w HR)
  rw [e1, e2, e3] at HC
  clear hi hit
  go_enter Tryz.func72, Tryz.ntmps72
  go_wp2_with fail
  refine HC.out.mono ?_
  rintro e w1 ⟨rfl, hr1, ho1⟩
  have BS := Lib.hid (show Bs U w0 gb ys (wr || !decide (okR z v 99)) (setR z v x 99) h w1 from HB.out.kept ho1 hr1 HK.out rfl rfl rfl)
  have HO := Lib.hid ho1
  clear hr1 ho1 HC
  go_wp2_with fail
  go_end0
  exact ⟨rfl, h, BS.out, fun _ => ⟨rfl, rfl⟩, fun _ => ⟨rfl, rfl⟩, HO.out⟩
set_option maxRecDepth 100000 in
set_option maxHeartbeats 1000000 in
theorem wlay_set (U : List Int → Option Addr → Nat → Prop) (w0 : World) (gb : Nat) (hs ys : List Hdr) (wr : Bool) (x : Not) (h : NHd) (w : World) (z : Not) (v : Int) (hi : LIn U w0 gb hs ys wr x h w z v 115) :
    Calls Tryz.prog 72 #[.pointer (some ⟨gb, 0, none⟩), .int .i32 115] w (Laid U w0 gb ys (wr || !decide (okR z v 115)) (setR z v x 115) h 115 w) := by
  have hit : hs.map (·.1) = [iN z.S] := hi.its
  obtain ⟨y1, rfl, e1⟩ : ∃ y1 : Hdr, hs = [y1] ∧ y1.1.N = z.S := by
    obtain ⟨y1, rfl, q1⟩ := hd1 hit
    exact ⟨y1, rfl, iN_of q1⟩
  have HB := Lib.hid hi.bs
  have HR := Lib.hid (show Rd w0 gb (y1 :: ys) wr (ncells x h) w from hi.bs.rd)
  have HK := Lib.hid (setR_ok hi.ok hi.bs.ok v 115)
  have HC := Lib.hid (wset_any w0 gb y1 ys wr x h w HR.out)
  rw [e1] at HC
  clear hi hit
  go_enter Tryz.func72, Tryz.ntmps72
  go_wp2_with fail
  refine HC.out.mono ?_
  rintro e w1 ⟨rfl, hr1, ho1⟩
  have BS := Lib.hid (show Bs U w0 gb ys (wr || !decide (okR z v 115)) (setR z v x 115) h w1 from HB.out.kept ho1 hr1 HK.out rfl rfl rfl)
  have HO := Lib.hid ho1
  clear hr1 ho1 HC
  go_wp2_with fail
  go_end0
  exact ⟨rfl, h, BS.out, fun _ => ⟨rfl, rfl⟩, fun _ => ⟨rfl, rfl⟩, HO.out⟩
set_option maxRecDepth 100000 in
set_option maxHeartbeats 1000000 in
theorem wlay_home (U : List Int → Option Addr → Nat → Prop) (w0 : World) (gb : Nat) (hs ys : List Hdr) (wr : Bool) (x : Not) (h : NHd) (w : World) (z : Not) (v : Int) (hi : LIn U w0 gb hs ys wr x h w z v 104) :
    Calls Tryz.prog 72 #[.pointer (some ⟨gb, 0, none⟩), .int .i32 104] w (Laid U w0 gb ys (wr || !decide (okR z v 104)) (setR z v x 104) h 104 w) := by
  have hit : hs.map (·.1) = [iN z.H] := hi.its
  obtain ⟨y1, rfl, e1⟩ : ∃ y1 : Hdr, hs = [y1] ∧ y1.1.N = z.H := by
    obtain ⟨y1, rfl, q1⟩ := hd1 hit
    exact ⟨y1, rfl, iN_of q1⟩
  have HB := Lib.hid hi.bs
  have HR := Lib.hid (show Rd w0 gb (y1 :: ys) wr (ncells x h) w from hi.bs.rd)
  have HK := Lib.hid (setR_ok hi.ok hi.bs.ok v 104)
  have HC := Lib.hid (whome_any w0 gb y1 ys wr x h w HR.out)
  rw [e1] at HC
  clear hi hit
  go_enter Tryz.func72, Tryz.ntmps72
  go_wp2_with fail
  refine HC.out.mono ?_
  rintro e w1 ⟨rfl, hr1, ho1⟩
  have BS := Lib.hid (show Bs U w0 gb ys (wr || !decide (okR z v 104)) (setR z v x 104) h w1 from HB.out.kept ho1 hr1 HK.out rfl rfl rfl)
  have HO := Lib.hid ho1
  clear hr1 ho1 HC
  go_wp2_with fail
  go_end0
  exact ⟨rfl, h, BS.out, fun _ => ⟨rfl, rfl⟩, fun _ => ⟨rfl, rfl⟩, HO.out⟩
set_option maxRecDepth 100000 in
set_option maxHeartbeats 1000000 in
theorem wlay_ballot (U : List Int → Option Addr → Nat → Prop) (w0 : World) (gb : Nat) (hs ys : List Hdr) (wr : Bool) (x : Not) (h : NHd) (w : World) (z : Not) (v : Int) (hi : LIn U w0 gb hs ys wr x h w z v 98) :
    Calls Tryz.prog 72 #[.pointer (some ⟨gb, 0, none⟩), .int .i32 98] w (Laid U w0 gb ys (wr || !decide (okR z v 98)) (setR z v x 98) h 98 w) := by
  have hit : hs.map (·.1) = [iN z.B1, iN z.B2] := hi.its
  obtain ⟨y1, y2, rfl, e1, e2⟩ : ∃ y1 y2 : Hdr, hs = [y1, y2] ∧ y1.1.N = z.B1 ∧ y2.1.N = z.B2 := by
    obtain ⟨y1, y2, rfl, q1, q2⟩ := hd2 hit
    exact ⟨y1, y2, rfl, iN_of q1, iN_of q2⟩
  have HB := Lib.hid hi.bs
  have HR := Lib.hid (show Rd w0 gb (y1 :: y2 :: ys) wr (ncells x h) w from hi.bs.rd)
  have HK := Lib.hid (setR_ok hi.ok hi.bs.ok v 98)
  have HC := Lib.hid (wballot_any w0 gb y1 y2 ys wr x h w HR.out)
  rw [e1, e2] at HC
  clear hi hit
  go_enter Tryz.func72, Tryz.ntmps72
  go_wp2_with fail
  refine HC.out.mono ?_
  rintro e w1 ⟨rfl, hr1, ho1⟩
  have BS := Lib.hid (show Bs U w0 gb ys (wr || !decide (okR z v 98)) (setR z v x 98) h w1 from HB.out.kept ho1 hr1 HK.out rfl rfl rfl)
  have HO := Lib.hid ho1
  clear hr1 ho1 HC
  go_wp2_with fail
  go_end0
  exact ⟨rfl, h, BS.out, fun _ => ⟨rfl, rfl⟩, fun _ => ⟨rfl, rfl⟩, HO.out⟩
set_option maxRecDepth 100000 in
set_option maxHeartbeats 1000000 in
theorem wlay_other (U : List Int → Option Addr → Nat → Prop) (w0 : World) (gb : Nat) (hs ys : List Hdr) (wr : Bool) (x : Not) (h : NHd) (w : World) (z : Not) (v : Int) (hi : LIn U w0 gb hs ys wr x h w z v 111) :
    Calls Tryz.prog 72 #[.pointer (some ⟨gb, 0, none⟩), .int .i32 111] w (Laid U w0 gb ys (wr || !decide (okR z v 111)) (setR z v x 111) h 111 w) := by
  have hit : hs.map (·.1) = [iN z.O1, iN z.O2] := hi.its
  obtain ⟨y1, y2, rfl, e1, e2⟩ : ∃ y1 y2 : Hdr, hs = [y1, y2] ∧ y1.1.N = z.O1 ∧ y2.1.N = z.O2 := by
    obtain ⟨y1, y2, rfl, q1, q2⟩ := hd2 hit
    exact ⟨y1, y2, rfl, iN_of q1, iN_of q2⟩
  have HB := Lib.hid hi.bs
  have HR := Lib.hid (show Rd w0 gb (y1 :: y2 :: ys) wr (ncells x h) w from hi.bs.rd)
  have HK := Lib.hid (setR_ok hi.ok hi.bs.ok v 111)
  have HC := Lib.hid (wother_any w0 gb y1 y2 ys wr x h w HR.out)
  rw [e1, e2] at HC
  clear hi hit
  go_enter Tryz.func72, Tryz.ntmps72
  go_wp2_with fail
  refine HC.out.mono ?_
  rintro e w1 ⟨rfl, hr1, ho1⟩
  have BS := Lib.hid (show Bs U w0 gb ys (wr || !decide (okR z v 111)) (setR z v x 111) h w1 from HB.out.kept ho1 hr1 HK.out rfl rfl rfl)
  have HO := Lib.hid ho1
  clear hr1 ho1 HC
  go_wp2_with fail
  go_end0
  exact ⟨rfl, h, BS.out, fun _ => ⟨rfl, rfl⟩, fun _ => ⟨rfl, rfl⟩, HO.out⟩
set_option maxRecDepth 100000 in
set_option maxHeartbeats 1000000 in
theorem wlay_yes (U : List Int → Option Addr → Nat → Prop) (w0 : World) (gb : Nat) (hs ys : List Hdr) (wr : Bool) (x : Not) (h : NHd) (w : World) (z : Not) (v : Int) (hi : LIn U w0 gb hs ys wr x h w z v 121) :
    Calls Tryz.prog 72 #[.pointer (some ⟨gb, 0, none⟩), .int .i32 121] w (Laid U w0 gb ys (wr || !decide (okR z v 121)) (setR z v x 121) h 121 w) := by
  have hit : hs.map (·.1) = [iN v] := hi.its
  obtain ⟨y1, rfl, e1⟩ : ∃ y1 : Hdr, hs = [y1] ∧ y1.1.N = v := by
    obtain ⟨y1, rfl, q1⟩ := hd1 hit
    exact ⟨y1, rfl, iN_of q1⟩
  have HB := Lib.hid hi.bs
  have HR := Lib.hid (show Rd w0 gb (y1 :: ys) wr (ncells x h) w from hi.bs.rd)
  have HK := Lib.hid (setR_ok hi.ok hi.bs.ok v 121)
  have HC := Lib.hid (wyes_any w0 gb y1 ys wr x h w HR)
  rw [e1] at HC
  clear hi hit
  go_enter Tryz.func72, Tryz.ntmps72
  go_wp2_with fail
  refine HC.out.mono ?_
  rintro e w1 ⟨rfl, hr1, ho1⟩
  have BS := Lib.hid (show Bs U w0 gb ys (wr || !decide (okR z v 121)) (setR z v x 121) h w1 from HB.out.kept ho1 hr1 HK.out rfl rfl rfl)
  have HO := Lib.hid ho1
  clear hr1 ho1 HC
  go_wp2_with fail
  go_end0
  exact ⟨rfl, h, BS.out, fun _ => ⟨rfl, rfl⟩, fun _ => ⟨rfl, rfl⟩, HO.out⟩
theorem or_true (wr : Bool) {q : Prop} [Decidable q] (h : q) : (wr || !decide q) = wr := by simp [h]
set_option maxRecDepth 100000 in
set_option maxHeartbeats 1000000 in
theorem wlay_id (U : List Int → Option Addr → Nat → Prop) (w0 : World) (gb : Nat) (hs ys : List Hdr) (wr : Bool) (x : Not) (h : NHd) (w : World) (z : Not) (v : Int) (hi : LIn U w0 gb hs ys wr x h w z v 100) :
    Calls Tryz.prog 72 #[.pointer (some ⟨gb, 0, none⟩), .int .i32 100] w (Laid U w0 gb ys (wr || !decide (okR z v 100)) (setR z v x 100) h 100 w) := by
  have hit : hs.map (·.1) = [iD z.D] := hi.its
  obtain ⟨y1, rfl, e1⟩ : ∃ y1 : Hdr, hs = [y1] ∧ y1.1.D = z.D := by
    obtain ⟨y1, rfl, q1⟩ := hd1 hit
    exact ⟨y1, rfl, by rw [q1]; rfl⟩
  rw [or_true wr (show okR z v 100 from trivial)]
  have HB := Lib.hid hi.bs
  have HR := Lib.hid (show Rd w0 gb (y1 :: ys) wr (ncells x h) w from hi.bs.rd)
  have HK := Lib.hid (setR_ok hi.ok hi.bs.ok v 100)
  have HC := Lib.hid (wid_any w0 gb y1 ys wr x h w hi.bs.ok.len HR.out)
  rw [e1] at HC
  clear hi hit
  go_enter Tryz.func72, Tryz.ntmps72
  go_wp2_with fail
  refine HC.out.mono ?_
  rintro e w1 ⟨rfl, hr1, ho1⟩
  have BS := Lib.hid (show Bs U w0 gb ys wr (setR z v x 100) h w1 from HB.out.kept ho1 hr1 HK.out rfl rfl rfl)
  have HO := Lib.hid ho1
  clear hr1 ho1 HC
  go_wp2_with fail
  go_end0
  exact ⟨rfl, h, BS.out, fun _ => ⟨rfl, rfl⟩, fun _ => ⟨rfl, rfl⟩, HO.out⟩
set_option maxRecDepth 100000 in
set_option maxHeartbeats 1000000 in
theorem wlay_data (U : List Int → Option Addr → Nat → Prop) (w0 : World) (gb : Nat) (hs ys : List Hdr) (wr : Bool) (x : Not) (h : NHd) (w : World) (z : Not) (v : Int) (hi : LIn U w0 gb hs ys wr x h w z v 120) :
    Calls Tryz.prog 72 #[.pointer (some ⟨gb, 0, none⟩), .int .i32 120] w (Laid U w0 gb ys (wr || !decide (okR z v 120)) (setR z v x 120) h 120 w) := by
  have hit : hs.map (·.1) = [iB z.X] := hi.its
  obtain ⟨y1, rfl, e1⟩ : ∃ y1 : Hdr, hs = [y1] ∧ y1.1 = iB z.X := by
    exact hd1 hit
  rw [or_true wr (show okR z v 120 from trivial)]
  have HB := Lib.hid hi.bs
  have HR := Lib.hid (show Rd w0 gb (y1 :: ys) wr (ncells x h) w from hi.bs.rd)
  have HK := Lib.hid (setR_ok hi.ok hi.bs.ok v 120)
  have HC := Lib.hid (wdata_any w0 gb y1 ys wr x h w hi.bs.ok.len HR.out)
  have HG := Lib.hid (show GoodI w0 (iB z.X) y1.2.1 y1.2.2 from by
    obtain ⟨⟨_, _, _, hL, _⟩, _, _⟩ := HR.out
    rw [← e1]; exact hL.good _ (List.mem_cons_self ..))
  have HU := Lib.hid (show U z.X y1.2.1 y1.2.2 from by
    have := hi.us y1 (List.mem_cons_self ..)
    rw [e1] at this; exact this)
  rw [e1] at HC
  clear hi hit
  go_enter Tryz.func72, Tryz.ntmps72
  go_wp2_with fail
  refine HC.out.mono ?_
  rintro e w1 ⟨rfl, hr1, ho1⟩
  have BS := Lib.hid (show Bs U w0 gb ys wr (setR z v x 120) { h with q := y1.2.1, c := y1.2.2 } w1 from by
    obtain ⟨cs, bk⟩ := HB.out.rd.blk
    exact ⟨hr1, HK.out, row_only HB.out.I bk id_ne_b ho1, row_only HB.out.W bk word_ne_b ho1, HG.out, HU.out⟩)
  have HO := Lib.hid ho1
  clear hr1 ho1 HC
  go_wp2_with fail
  go_end0
  exact ⟨rfl, { h with q := y1.2.1, c := y1.2.2 }, BS.out, fun _ => ⟨rfl, rfl⟩, fun _ => ⟨rfl, rfl⟩, HO.out⟩
theorem ids_hdrs : ∀ (l : List (List Int)) (hs : List Hdr), hs.map (·.1) = l.flatMap (fun d => [iD d]) → hs.map (fun y => y.1.D) = l ∧ hs.length = l.length
  | [], hs, h => by
    have : hs = [] := by simpa using h
    subst this; exact ⟨rfl, rfl⟩
  | d :: l, [], h => by simp at h
  | d :: l, y :: hs, h => by
    simp only [List.map_cons, List.flatMap_cons, List.singleton_append, List.cons.injEq] at h
    obtain ⟨h1, h2⟩ := ids_hdrs l hs h.2
    exact ⟨by simp only [List.map_cons, h1, h.1]; rfl, by simp [h2]⟩
theorem words_hdrs : ∀ (l : List Mb) (hs : List Hdr), hs.map (·.1) = l.flatMap w3 → ∃ ts : List (Hdr × Hdr × Hdr), hs = ts.flatMap w3H ∧ ts.map (fun t : Hdr × Hdr × Hdr => (⟨t.1.1.N, t.2.1.1.N, t.2.2.1.N⟩ : Mb)) = l
  | [], hs, h => by
    have : hs = [] := by simpa using h
    subst this; exact ⟨[], rfl, rfl⟩
  | m :: l, hs, h => by
    rw [List.flatMap_cons] at h
    match hs, h with
    | y1 :: y2 :: y3 :: hs, h =>
      simp only [List.map_cons, w3, List.cons_append, List.nil_append, List.cons.injEq] at h
      obtain ⟨a, b, c, h⟩ := h
      obtain ⟨ts, rfl, h2⟩ := words_hdrs l hs h
      refine ⟨(y1, y2, y3) :: ts, by simp [w3H], ?_⟩
      simp only [List.map_cons, h2, a, b, c]
      rfl
    | [], h => simp [w3] at h
    | [_], h => simp [w3] at h
    | [_, _], h => simp [w3] at h
set_option maxRecDepth 100000 in
set_option maxHeartbeats 1000000 in
theorem wlay_ids (U : List Int → Option Addr → Nat → Prop) (w0 : World) (gb : Nat) (hs ys : List Hdr) (wr : Bool) (x : Not) (h : NHd) (w : World) (z : Not) (v : Int) (hi : LIn U w0 gb hs ys wr x h w z v 105) :
    Calls Tryz.prog 72 #[.pointer (some ⟨gb, 0, none⟩), .int .i32 105] w (Laid U w0 gb ys (wr || !decide (okR z v 105)) (setR z v x 105) h 105 w) := by
  have hit : hs.map (·.1) = iN z.I.length :: z.I.flatMap (fun d => [iD d]) := hi.its
  obtain ⟨y1, zs, rfl, e1, e2, e3⟩ : ∃ (y1 : Hdr) (zs : List Hdr), hs = y1 :: zs ∧ y1.1.N = zs.length ∧ zs.map (fun y => y.1.D) = z.I ∧ zs.length = z.I.length := by
    obtain ⟨y1, zs, rfl, q1, q2⟩ := hdc hit
    obtain ⟨h1, h2⟩ := ids_hdrs _ _ q2
    exact ⟨y1, zs, rfl, by rw [iN_of q1, h2], h1, h2⟩
  have HB := Lib.hid hi.bs
  have HK := Lib.hid (setR_ok hi.ok hi.bs.ok v 105)
  have HC := Lib.hid (wids_any w0 gb y1 zs ys wr x h w hi.bs.ok.len e1 (by rw [e3]; exact hi.Il) (hi.I0 rfl).1 (hi.I0 rfl).2 hi.bs.rd)
  rw [e2, e3] at HC
  clear hi hit
  go_enter Tryz.func72, Tryz.ntmps72
  go_wp2_with fail
  refine HC.out.mono ?_
  rintro e w1 ⟨rfl, q, c, hr1, hw1, ho1⟩
  have BS := Lib.hid (show Bs U w0 gb ys (wr || !decide (okR z v 105)) (setR z v x 105) { h with r := q, d := c } w1 from by
    obtain ⟨cs, bk⟩ := HB.out.rd.blk
    exact ⟨hr1, HK.out, hw1, row_only HB.out.W bk word_ne_b ho1, HB.out.X, HB.out.U⟩)
  have HO := Lib.hid ho1
  clear hr1 ho1 hw1 HC
  go_wp2_with fail
  go_end0
  exact ⟨rfl, { h with r := q, d := c }, BS.out, fun e => absurd rfl e, fun _ => ⟨rfl, rfl⟩, HO.out⟩
theorem or_and (wr : Bool) (p q : Prop) [Decidable p] [Decidable q] : ((wr || !decide p) || !decide q) = (wr || !decide (p ∧ q)) := by
  cases wr
  · by_cases h1 : p <;> by_cases h2 : q <;> simp [h1, h2]
  · rfl
set_option maxRecDepth 100000 in
set_option maxHeartbeats 1000000 in
theorem wlay_words (U : List Int → Option Addr → Nat → Prop) (w0 : World) (gb : Nat) (hs ys : List Hdr) (wr : Bool) (x : Not) (h : NHd) (w : World) (z : Not) (v : Int) (hi : LIn U w0 gb hs ys wr x h w z v 119) :
    Calls Tryz.prog 72 #[.pointer (some ⟨gb, 0, none⟩), .int .i32 119] w (Laid U w0 gb ys (wr || !decide (okR z v 119)) (setR z v x 119) h 119 w) := by
  have hit : hs.map (·.1) = iN z.W.length :: z.W.flatMap w3 := hi.its
  obtain ⟨y1, zs, rfl, e1, e2, e3⟩ : ∃ (y1 : Hdr) (zs : List (Hdr × Hdr × Hdr)), hs = y1 :: zs.flatMap w3H ∧ y1.1.N = zs.length ∧ zs.map (fun t : Hdr × Hdr × Hdr => (⟨t.1.1.N, t.2.1.1.N, t.2.2.1.N⟩ : Mb)) = z.W ∧ zs.length = z.W.length := by
    obtain ⟨y1, zs, rfl, q1, q2⟩ := hdc hit
    obtain ⟨ts, h1, h2⟩ := words_hdrs _ _ q2
    have h3 : ts.length = z.W.length := by rw [← h2, List.length_map]
    exact ⟨y1, ts, by rw [h1], by rw [iN_of q1, h3], h2, h3⟩
  have HB := Lib.hid hi.bs
  have HK := Lib.hid (setR_ok hi.ok hi.bs.ok v 119)
  have HC := Lib.hid (wwords_any w0 gb y1 zs ys wr x h w hi.bs.ok.len e1 (by rw [e3]; exact hi.Wl) (hi.W0 rfl).1 (hi.W0 rfl).2 hi.bs.rd)
  rw [e2, e3, or_and] at HC
  clear hi hit
  go_enter Tryz.func72, Tryz.ntmps72
  go_wp2_with fail
  refine HC.out.mono ?_
  rintro e w1 ⟨rfl, q, c, hr1, hw1, ho1⟩
  have BS := Lib.hid (show Bs U w0 gb ys (wr || !decide (okR z v 119)) (setR z v x 119) { h with s := q, e := c } w1 from by
    obtain ⟨cs, bk⟩ := HB.out.rd.blk
    exact ⟨hr1, HK.out, row_only HB.out.I bk id_ne_b ho1, hw1, HB.out.X, HB.out.U⟩)
  have HO := Lib.hid ho1
  clear hr1 ho1 hw1 HC
  go_wp2_with fail
  go_end0
  exact ⟨rfl, { h with s := q, e := c }, BS.out, fun _ => ⟨rfl, rfl⟩, fun e => absurd rfl e, HO.out⟩
theorem wlay_any (U : List Int → Option Addr → Nat → Prop) (w0 : World) (gb : Nat) (hs ys : List Hdr) (wr : Bool) (x : Not) (h : NHd) (w : World) (z : Not) (v c : Int) (hc : isT c) (hi : LIn U w0 gb hs ys wr x h w z v c) :
    Calls Tryz.prog 72 #[.pointer (some ⟨gb, 0, none⟩), .int .i32 c] w (Laid U w0 gb ys (wr || !decide (okR z v c)) (setR z v x c) h c w) := by
  rcases hc with rfl | rfl | rfl | rfl | rfl | rfl | rfl | rfl | rfl | rfl
  · exact wlay_call U w0 gb hs ys wr x h w z v hi
  · exact wlay_ballot U w0 gb hs ys wr x h w z v hi
  · exact wlay_other U w0 gb hs ys wr x h w z v hi
  · exact wlay_id U w0 gb hs ys wr x h w z v hi
  · exact wlay_data U w0 gb hs ys wr x h w z v hi
  · exact wlay_ids U w0 gb hs ys wr x h w z v hi
  · exact wlay_words U w0 gb hs ys wr x h w z v hi
  · exact wlay_set U w0 gb hs ys wr x h w z v hi
  · exact wlay_home U w0 gb hs ys wr x h w z v hi
  · exact wlay_yes U w0 gb hs ys wr x h w z v hi
end
section
set_option linter.unusedSimpArgs false
set_option linter.unusedVariables false
open Go.RowKit Sha Nte
open Fld (Itm)
theorem execOp_nboxItem (ρ : Operand → Value) (dst : Option Tmp) (x : Operand) (ty : TypeId) (pos : String) (after : Array Edge) (guard : Option (Nat × Bool)) :
    execOp ρ { dst := dst, op := .box 118 x, type := ty, pos := pos, after := after, guard := guard } = boxOp 118 (ρ x) := by unfold boxOp; rfl
def hasIt (y : Hdr) : Bool := decide (y.1.N ≠ 0) || decide (0 < y.1.B.length)
section
attribute [local go_sem ↓] execOp_nboxItem execOp_nloadItem execOp_boxForm15 execOp_boxNote execOp_loadNote execOp_loadForm15
set_option maxRecDepth 100000 in
set_option maxHeartbeats 1000000 in
theorem whas_any (y : Hdr) (w : World) : Calls Tryz.prog 112 #[.agg (cellsI y).toArray] w fun e w' => e = .returned (.bool (hasIt y)) ∧ Below w.heap.size w w' := by
  have bx := run_boxOp (P := Tryz.prog) (t := 118) (cs := (cellsI y).toArray) w
  have HB := Lib.hid ((Below.refl _ w).alloc (Nat.le_refl _) (.cells (cellsI y).toArray 118))
  have K := Lib.hid (show Blk (w.alloc (.cells (cellsI y).toArray 118)) w.heap.size (cellsI y) 118 from Blk.new w (cellsI y).toArray 118)
  obtain ⟨w1, hw1⟩ : ∃ w1, w1 = w.alloc (.cells (cellsI y).toArray 118) := ⟨_, rfl⟩
  rw [← hw1] at bx HB K
  have c0 : w1.cell? ⟨w.heap.size, 0, none⟩ = some (.int .i64 y.1.N) := (K.out.cell 0).trans (icells_0 ..)
  have c1 : w1.cell? ⟨w.heap.size, 1, none⟩ = some (.slice y.2.1 y.1.B.length y.2.2) := (K.out.cell 1).trans (icells_1 ..)
  have HV := Lib.hid (show hasIt y = (decide (y.1.N ≠ 0) || decide (0 < y.1.B.length)) from rfl)
  generalize hasIt y = z at *
  generalize y.1.B.length = m at *
  generalize y.1.N = n at *
  generalize (Value.agg (cellsI y).toArray) = vy at *
  clear hw1 K
  by_cases h : n = 0
  · have t1 : (n != 0) = false := by simp [h]
    have HZ := Lib.hid (show z = decide (0 < m) from by rw [HV.out]; simp [h])
    clear h HV
    go_enter Tryz.func112, Tryz.ntmps112
    go_wp2_with fail
    go_ret
    exact ⟨by rw [HZ.out]; rfl, HB.out⟩
  · have t1 : (n != 0) = true := by simpa using h
    have hz : z = true := by rw [HV.out]; simp [h]
    subst hz
    clear HV h
    go_enter Tryz.func112, Tryz.ntmps112
    go_wp2_with fail
    go_ret
    exact ⟨rfl, HB.out⟩
set_option maxRecDepth 100000 in
set_option maxHeartbeats 2000000 in
theorem windex_any (ys : List Hdr) (p : Option Addr) (n c : Nat) (w : World) (h : LeftAt w p n c ys) (hs : n ≤ 100000) :
    Calls Tryz.prog 127 #[.slice p n c, .func (.func 112) #[] #[]] w fun e w' => (∃ r : Int, e = .returned (.int .i64 r) ∧ decide (0 ≤ r) = ys.any hasIt) ∧ Below w.heap.size w w' := by
  have HA := Lib.hid h.at_
  have HN := Lib.hid h.len
  have HG := Lib.hid h.good
  have HOK := Lib.hid (fun y hy => (h.good y hy).ok)
  have hm := h.max
  have hle := h.le
  clear h
  go_enter Tryz.func127, Tryz.ntmps127
  go_wp2_with fail
  go_loopw [8] (fun i wr => ∃ a : Nat, i = .int .i64 a ∧ a ≤ n ∧ Hid ((ys.take a).any hasIt = false) ∧ Hid (Below w.heap.size w wr)) (fun i _ => n - (intOf i).toNat)
  case atStart => exact ⟨0, rfl, by omega, Lib.hid rfl, Lib.hid (Below.refl _ _)⟩
  case round =>
    obtain ⟨a, rfl, ha, HT, HB⟩ := hrel
    by_cases han : a < n
    · have hal : a < ys.length := by rw [← HN.out]; exact han
      obtain ⟨g, off, rfl, hcell⟩ := (HA.out.below HB.out).addr (by rw [flat_length ys HOK.out]; omega)
      have hr : wr.rangeAt g (off + a * 34) (cellsI ys[a]) := fun j v hv => by rw [Nat.add_assoc]; exact hcell _ v (flat_get ys HOK.out a hal j v hv)
      have l1 := load_item15 (HOK.out _ (List.getElem_mem hal)) hr
      have hjn : (0 : Int) ≤ (a : Int) ∧ (a : Int) < (n : Int) := by omega
      have HTK := Lib.hid (show (ys.take (a + 1)).any hasIt = ((ys.take a).any hasIt || hasIt ys[a]) from by rw [List.take_succ_eq_append_getElem hal, List.any_append]; simp)
      have HALL := Lib.hid (show hasIt ys[a] = true → ys.any hasIt = true from fun e => List.any_eq_true.2 ⟨_, List.getElem_mem hal, e⟩)
      have HW := Lib.hid (show Calls Tryz.prog 112 #[.agg (icells ys[a].1 ys[a].2.1 ys[a].2.2).toArray] wr fun e w' => e = .returned (.bool (hasIt ys[a])) ∧ Below wr.heap.size wr w' from whas_any ys[a] wr)
      obtain ⟨b, hb⟩ : ∃ b, b = hasIt ys[a] := ⟨_, rfl⟩
      rw [← hb] at HTK HALL HW
      generalize (Value.agg (icells ys[a].1 ys[a].2.1 ys[a].2.2).toArray) = vy at *
      clear hcell hr hal hb
      cases b with
      | true =>
        have HALL2 := Lib.hid (HALL.out rfl)
        clear HALL
        go_wp2_with fail
        refine HW.out.mono ?_
        rintro e w2 ⟨rfl, hb2⟩
        have HB2 := Lib.hid (HB.out.trans (hb2.mono HB.out.size))
        clear l1 HW hb2 HTK
        go_wp2_with fail
        go_ret
        exact ⟨⟨(a : Int), rfl, by rw [HALL2.out]; simp⟩, HB2.out⟩
      | false =>
        have HT2 := Lib.hid (show (ys.take (a + 1)).any hasIt = false from by rw [HTK.out, HT.out]; rfl)
        go_wp2_with fail
        refine HW.out.mono ?_
        rintro e w2 ⟨rfl, hb2⟩
        have HB2 := Lib.hid (HB.out.trans (hb2.mono HB.out.size))
        clear l1 HW hb2 HTK HALL HT
        go_wp2_with fail
        go_roundw
        case rel => exact ⟨a + 1, by go_num, by omega, HT2, HB2⟩
        case measure => simp [intOf]; omega
    · obtain rfl : a = n := by omega
      have HV := Lib.hid (show ys.any hasIt = false from by have := HT.out; rwa [List.take_of_length_le (by rw [← HN.out]; exact Nat.le_refl _)] at this)
      go_wp2_with fail
      go_ret
      exact ⟨⟨-1, rfl, by rw [HV.out]; rfl⟩, HB.out⟩
theorem wcontains_any (ys : List Hdr) (p : Option Addr) (n c : Nat) (w : World) (h : LeftAt w p n c ys) (hs : n ≤ 100000) :
    Calls Tryz.prog 111 #[.slice p n c, .func (.func 112) #[] #[]] w fun e w' => e = .returned (.bool (ys.any hasIt)) ∧ Below w.heap.size w w' := by
  have HI := Lib.hid (windex_any ys p n c w h hs)
  obtain ⟨z, hz⟩ : ∃ z, z = ys.any hasIt := ⟨_, rfl⟩
  rw [← hz] at HI ⊢
  clear h hz
  go_enter Tryz.func111, Tryz.ntmps111
  go_wp2_with fail
  refine HI.out.mono ?_
  rintro e w1 ⟨⟨r, rfl, hr⟩, hb⟩
  have HB := Lib.hid hb
  clear HI hb
  subst hr
  go_wp2_with fail
  go_ret
  exact ⟨rfl, HB.out⟩
theorem hdrs_len2 {x : Not} (h : NHd) (hx : WFew x) {c : Int} (hc : isT c) : (hdrs x h c).length ≤ 12001 := by
  have h1 := hx.I
  have h2 := hx.W
  have hl : (hdrs x h c).length = (its x c).length := by rw [← hdrs_map x h c, List.length_map]
  have hw : ∀ l : List Mb, (l.flatMap w3).length = 3 * l.length := by intro l; induction l with | nil => rfl | cons a l ih => rw [List.flatMap_cons, List.length_append, ih]; simp [w3]; omega
  have hi : ∀ l : List (List Int), (l.flatMap (fun d => [iD d])).length = l.length := by intro l; induction l with | nil => rfl | cons a l ih => rw [List.flatMap_cons, List.length_append, ih]; simp; omega
  have e1 : (its x 105).length = 1 + x.I.length := by rw [show its x 105 = iN x.I.length :: (x.I.flatMap fun d => [iD d]) from rfl, List.length_cons, hi]; omega
  have e2 : (its x 119).length = 1 + 3 * x.W.length := by rw [show its x 119 = iN x.W.length :: x.W.flatMap w3 from rfl, List.length_cons, hw]; omega
  rw [hl]
  rcases hc with rfl | rfl | rfl | rfl | rfl | rfl | rfl | rfl | rfl | rfl
  · show 3 ≤ 12001; omega
  · show 2 ≤ 12001; omega
  · show 2 ≤ 12001; omega
  · show 1 ≤ 12001; omega
  · show 1 ≤ 12001; omega
  · omega
  · omega
  · show 1 ≤ 12001; omega
  · show 1 ≤ 12001; omega
  · show 1 ≤ 12001; omega
/-- The text of what has to be empty: at most one letter. -/
def noneT (k : Int) (y : Bool) : List Int := if y = true then (if k = 12 then [111] else []) else (if k = 8 ∨ k = 10 ∨ k = 15 then [120] else [])
def noneB (k : Int) (y : Bool) : ByteArray := if y = true then kYes k else kNo k
theorem noneB_nums (k : Int) (y : Bool) : nums (noneB k y) = noneT k y := by
  unfold noneB noneT kYes kNo
  (repeat' split) <;> decide +kernel
theorem noneT_is (k : Int) (y : Bool) : noneT k y = [] ∨ noneT k y = [111] ∨ noneT k y = [120] := by
  unfold noneT
  (repeat' split) <;> simp
theorem none_agr (x : Not) (h : NHd) : decide (agr x) = !((noneT x.K x.Y).any fun c => (hdrs x h c).any hasIt) := by
  have e : hdrs x h 111 = [nNh x.O1, nNh x.O2] := hdrs_N (ns := [x.O1, x.O2]) (by decide) rfl
  have e2 : hdrs x h 120 = [(iB x.X, h.q, h.c)] := by simp [hdrs]
  have ho : (hdrs x h 111).any hasIt = !decide (x.O1 = 0 ∧ x.O2 = 0) := by
    rw [e]
    by_cases h1 : x.O1 = 0 <;> by_cases h2 : x.O2 = 0 <;> simp [hasIt, nNh, iN, h1, h2]
  have hX : (hdrs x h 120).any hasIt = !decide (x.X = []) := by
    rw [e2]
    cases hx : x.X <;> simp [hasIt, iB]
  rw [Bool.eq_iff_iff, decide_eq_true_iff]
  unfold agr noneT
  by_cases hy : x.Y = true
  · by_cases hk : x.K = 12
    · have h8 : ¬ (x.K = 8 ∨ x.K = 10 ∨ x.K = 15) := by omega
      simp [hy, hk, ho]
    · simp [hy, hk]
  · have hy2 : x.Y = false := by simpa using hy
    by_cases hk : x.K = 8 ∨ x.K = 10 ∨ x.K = 15
    · simp [hy2, hk, hX]
    · simp [hy2, hk]
set_option maxRecDepth 100000 in
set_option maxHeartbeats 4000000 in
theorem wagrees_any (x : Not) (h : NHd) (w : World) (hg : NGood w x h) (hf : WFew x) :
    Calls Tryz.prog 73 #[wform x.K, .agg (ncells x h).toArray] w fun e w' => e = .returned (.bool (decide (agr x))) ∧ Below w.heap.size w w' := by
  rw [none_agr x h]
  have HNM := Lib.hid (noneB_nums x.K x.Y)
  have HIS := Lib.hid (noneT_is x.K x.Y)
  have HNB := Lib.hid (show noneB x.K x.Y = if x.Y = true then kYes x.K else kNo x.K from rfl)
  show Calls Tryz.prog 73 #[.agg #[.string (kHas x.K), .string (kYes x.K), .string (kNo x.K)], .agg (ncells x h).toArray] w _
  generalize kHas x.K = t0 at *
  generalize kYes x.K = t1 at *
  generalize kNo x.K = t2 at *
  generalize noneB x.K x.Y = t at *
  generalize noneT x.K x.Y = l at *
  have bx1 := run_boxOp (P := Tryz.prog) (t := 63) (cs := #[.string t0, .string t1, .string t2]) w
  have hb1 := (Below.refl w.heap.size w).alloc (Nat.le_refl _) (.cells #[.string t0, .string t1, .string t2] 63)
  have hk1 : Blk (w.alloc (.cells #[.string t0, .string t1, .string t2] 63)) w.heap.size (fcs t0 t1 t2) 63 := Blk.new w #[.string t0, .string t1, .string t2] 63
  obtain ⟨gf, hgf⟩ : ∃ gf, gf = w.heap.size := ⟨_, rfl⟩
  obtain ⟨w1, hw1⟩ : ∃ v, v = w.alloc (.cells #[.string t0, .string t1, .string t2] 63) := ⟨_, rfl⟩
  rw [← hw1] at bx1 hb1 hk1
  rw [← hgf] at bx1 hk1
  obtain ⟨g, w2, r2, hg2, hl2, K2, B2⟩ := box_note w1 x h
  have hb2 := hb1.trans (B2.mono hb1.size)
  have F2 := hk1.below B2 hk1.lt
  have f1 : w2.cell? ⟨gf, 1, none⟩ = some (.string t1) := F2.cell 1
  have f2 : w2.cell? ⟨gf, 2, none⟩ = some (.string t2) := F2.cell 2
  have y2 : w2.cell? ⟨g, 8 + 4, none⟩ = some (.bool x.Y) := nblk_cells K2.range 12 rfl
  have HX := Lib.hid hg
  have HF := Lib.hid hf
  have HK := Lib.hid K2
  have HB := Lib.hid hb2
  clear hw1 hb1 hk1 hg2 hl2 K2 B2 hb2 hg hf hgf F2
  have HL := Lib.hid (show l.length = t.size by rw [← HNM.out, nums_length])
  have H128 := Lib.hid (show ∀ c ∈ l, c < 128 ∧ isT c from fun c hc => by
    rcases HIS.out with e | e | e <;> rw [e] at hc <;> simp at hc
    · exact ⟨by omega, by unfold isT; omega⟩
    · exact ⟨by omega, by unfold isT; omega⟩)
  obtain ⟨z, hz⟩ : ∃ z, z = !(l.any fun c => (hdrs x h c).any hasIt) := ⟨_, rfl⟩
  rw [← hz]
  have HZ := Lib.hid hz
  clear hz HIS
  generalize x.Y = by_ at *
  cases by_
  case' true =>
    have e1 : t = t1 := HNB.out
    clear HNB
    subst e1
  case' false =>
    have e1 : t = t2 := HNB.out
    clear HNB
    subst e1
  all_goals
    go_enter Tryz.func73, Tryz.ntmps73
    go_wp2_with fail
    have HI0 := Lib.hid (World.iter_heap w2 t 0)
    have hal : (w2.iter t 0) = w2.alloc (.stringIter t 0) := rfl
    have K3 := Lib.hid (show Blk (w2.iter t 0) g (ncells x h) 32 from by rw [hal]; exact HK.out.old _)
    have HB3 := Lib.hid (show Below w.heap.size w (w2.iter t 0) from by rw [hal]; exact HB.out.alloc HB.out.size _)
    obtain ⟨gi, hgi⟩ : ∃ gi, gi = w2.heap.size := ⟨_, rfl⟩
    rw [← hgi] at HI0 ⊢
    have HG := Lib.hid (show w.heap.size ≤ gi by rw [hgi]; exact HB.out.size)
    clear hal hgi HB HK y2 bx1 r2
    generalize w2.iter t 0 = w3 at *
    go_loopg [7] t.size (fun gh vv wr => ∃ (j : Nat) (v : Value), v = vv ∧ j ≤ t.size ∧ gh = t.size - j ∧ Hid (((l.take j).any fun c => (hdrs x h c).any hasIt) = false) ∧ Hid (wr.heap[gi]? = some (.stringIter t j)) ∧ Hid (Blk wr g (ncells x h) 32) ∧ Hid (Below w.heap.size w wr))
    case atStart => exact ⟨0, _, rfl, by omega, rfl, Lib.hid rfl, HI0, K3, HB3⟩
    case round =>
      obtain ⟨j, v, rfl, hj, rfl, HT, HI, K, HB⟩ := hrel
      clear HI0 K3 HB3
      by_cases hp : j < t.size
      · obtain ⟨ch, hn, hch⟩ := wire_next t l HNM.out j hp (fun c hc => (H128.out c hc).1)
        have hnx := fun ty => hn.run wr gi ty HI.out
        have hcm : ch ∈ l := List.mem_of_getElem? hch
        have HC := Lib.hid (H128.out ch hcm).2
        have HTK := Lib.hid (show ((l.take (j + 1)).any fun c => (hdrs x h c).any hasIt) = (((l.take j).any fun c => (hdrs x h c).any hasIt) || (hdrs x h ch).any hasIt) from by
          rw [List.take_add_one, hch]; simp)
        have HALL := Lib.hid (show (hdrs x h ch).any hasIt = true → (l.any fun c => (hdrs x h c).any hasIt) = true from fun e => List.any_eq_true.2 ⟨ch, hcm, e⟩)
        have HI2 := Lib.hid (Lib.iterAt_heap _ _ _ _ (j + 1) HI.out)
        have hck := cells_iterAt HI.out (j + 1)
        have K2 := Lib.hid (show Blk (wr.iterAt gi t (j + 1)) g (ncells x h) 32 from hck.2 _ _ _ _ K.out)
        have HB2 := Lib.hid (show Below w.heap.size w (wr.iterAt gi t (j + 1)) from Lib.below_iterAt HB.out HG.out t (j + 1))
        clear hn hch hcm hck HI K HB
        obtain ⟨w9, hw9⟩ : ∃ w9, w9 = wr.iterAt gi t (j + 1) := ⟨_, rfl⟩
        rw [← hw9] at hnx HI2 K2 HB2
        clear hw9
        have lf := load_note (o := 0) HX.out.ok.len K2.out.range
        have WI := Lib.hid (show WIn w w9 [] (.slice none 0 0) x h from ⟨HX.out, HF.out, HB2.out, World.ownsRow_nil _ _ _ _, by simp⟩)
        go_wp2_with fail
        refine (wwith_any w w9 [] (.slice none 0 0) x h WI.out ch HC.out).mono ?_
        rintro e wt ⟨v8, rfl, ho8, hs8⟩
        obtain ⟨p, cp, rfl, q1, q2, hA, _, q3⟩ := nown_at ho8
        have HI8 := Lib.hid (hs8.iter HI2.out)
        have K8 := Lib.hid (hs8.blk K2.out note_ne_item)
        have HB8 := Lib.hid (hs8.bel _ HB2.out)
        rw [List.nil_append] at hA
        rw [List.length_nil, Nat.zero_add] at q1 ⊢
        have HLA := Lib.hid (show LeftAt wt p (hdrs x h ch).length cp (hdrs x h ch) from ⟨rfl, q1, by unfold maxLen at q2; omega, q3, hA, hdrs_good (HX.out.below HB8.out) HC.out⟩)
        have HLN := Lib.hid (hdrs_len2 h HF.out HC.out)
        have HCF := Lib.hid (wcontains_any (hdrs x h ch) p _ cp wt HLA.out (by have := HLN.out; omega))
        clear ho8 hs8 hA q1 q2 q3 lf HI2 K2 HB2 WI HLA
        obtain ⟨b, hb⟩ : ∃ b, b = (hdrs x h ch).any hasIt := ⟨_, rfl⟩
        rw [← hb] at HCF HTK HALL
        clear hb
        go_wp2_with fail
        refine HCF.out.mono ?_
        rintro e w4 ⟨rfl, hb4⟩
        have HI4 := Lib.hid ((hb4.block gi (Array.getElem?_eq_some_iff.1 HI8.out).1).trans HI8.out)
        have K4 := Lib.hid (K8.out.below hb4 K8.out.lt)
        have HB4 := Lib.hid (HB8.out.trans (hb4.mono HB8.out.size))
        clear HI8 K8 HB8 hb4 HCF
        cases b with
        | true =>
          have HZ2 := Lib.hid (show z = false from by rw [HZ.out, HALL.out rfl]; rfl)
          go_wp2_with fail
          go_ret
          exact ⟨by rw [HZ2.out]; rfl, HB4.out⟩
        | false =>
          have HT2 := Lib.hid (show ((l.take (j + 1)).any fun c => (hdrs x h c).any hasIt) = false from by rw [HTK.out, HT.out]; rfl)
          clear HT HTK HALL
          go_wp2_with fail
          go_roundg (t.size - (j + 1))
          case measure => omega
          case rel => exact ⟨j + 1, _, rfl, by omega, rfl, HT2, HI4, K4, HB4⟩
      · obtain rfl : j = t.size := by omega
        have hnx := fun ty => Lib.run_next_end_at (P := Tryz.prog) wr gi t t.size ty HI.out (by omega)
        have HZ2 := Lib.hid (show z = true from by
          have := HT.out
          rw [List.take_of_length_le (by rw [HL.out]; exact Nat.le_refl _)] at this
          rw [HZ.out, this]; rfl)
        go_wp2_with fail
        go_ret
        exact ⟨by rw [HZ2.out]; rfl, HB.out⟩
end
end
section
set_option linter.unusedSimpArgs false
set_option linter.unusedVariables false
open Go.RowKit Sha Nte
open Fld (Itm)
theorem results_note15 {P : Program} {fn : Func} {p u : Tmp} {ty : TypeId} (h : fn.results = #[.cell p ty, .tmp u]) (tmps : Array Value) (w : World) (g : Nat) (t : TypeId) (cs : Array Value) (fr : Nat × Nat) (d : TypeDesc)
    (x : Value) (hp : tmps.getD p undef = .pointer (some ⟨g, 0, none⟩)) (hg : w.heap[g]? = some (.cells cs t fr))
    (hu : P.underlying ty = some d) (hd : (match d with | .struct _ | .array _ _ => true | _ => false) = true) (hi : (P.info? ty).map (·.size) = some cs.size) (hx : tmps.getD u undef = x) :
    (results fn tmps).run P w = .ok (.tuple #[.agg cs, x]) w := by
  subst hx
  rw [results_cell_tmp h]
  have hp' : tmps[p]?.getD undef = .pointer (some ⟨g, 0, none⟩) := by simpa using hp
  simp [hp', asAddr, run_loadVar_row w g t ty cs fr d hg hu hd hi]
section
variable (ρ : Operand → Value) (dst : Option Tmp) (ty : TypeId) (pos : String) (after : Array Edge) (guard : Option (Nat × Bool)) (x y : Operand) (parts : Array (Nat × Operand))
theorem execOp_makeRd15 : execOp ρ { dst := dst, op := .build 108 parts, type := ty, pos := pos, after := after, guard := guard } = makeOp 108 (parts.map fun (i, x) => (i, ρ x)) := by unfold makeOp; rfl
theorem execOp_makeBd15 : execOp ρ { dst := dst, op := .build 110 parts, type := ty, pos := pos, after := after, guard := guard } = makeOp 110 (parts.map fun (i, x) => (i, ρ x)) := by unfold makeOp; rfl
theorem execOp_allocBd15 : execOp ρ { dst := dst, op := .alloc 110, type := ty, pos := pos, after := after, guard := guard } = allocOp 110 := by unfold allocOp; rfl
theorem execOp_storeBd15 : execOp ρ { dst := dst, op := .store 110 x y, type := ty, pos := pos, after := after, guard := guard } = storeOp 110 (ρ x) (ρ y) := by unfold storeOp; rfl
end
def bcells (p : Option Addr) (n c : Nat) : List Value := .slice p n c :: .bool false :: ncells none_ NHd.none_
theorem make_rd15 (p : Option Addr) (n c : Nat) (w : World) : (makeOp 108 #[(0, .slice p n c)]).run Tryz.prog w = .ok (.value (.agg #[.slice p n c, .bool false])) w := run_makeOp w (by kernel_rfl)
theorem make_bd15 (p : Option Addr) (n c : Nat) (w : World) : (makeOp 110 #[(0, .agg #[.slice p n c, .bool false])]).run Tryz.prog w = .ok (.value (.agg (bcells p n c).toArray)) w := run_makeOp w (by unfold bcells ncells; kernel_rfl)
theorem bd_zero15 : (Tryz.prog.info? 110).map (fun i => i.zero) = some (some (.agg (bcells none 0 0).toArray)) := by unfold bcells ncells; kernel_rfl
theorem bd_size15 : (Tryz.prog.info? 110).map (fun i => i.size) = some 50 := by kernel_rfl
theorem bcells_length (p : Option Addr) (n c : Nat) : (bcells p n c).length = 50 := by unfold bcells; simp [ncells_length nz_len]
theorem bcells_all (p : Option Addr) (n c : Nat) : (bcells p n c).toArray.all (·.oneCell') = true := by
  rw [Array.all_eq_true_iff_forall_mem]
  intro v hv
  have hv : v ∈ bcells p n c := by simpa using hv
  unfold bcells at hv
  rcases List.mem_cons.1 hv with rfl | hv
  · rfl
  · rcases List.mem_cons.1 hv with rfl | hv
    · rfl
    · exact ncells_one _ _ v hv
theorem alloc_bd15 (w : World) : (allocOp 110).run Tryz.prog w = .ok (.value (.pointer (some ⟨w.heap.size, 0, none⟩))) (w.alloc (.cells (bcells none 0 0).toArray 110)) := run_allocOp w bd_zero15
theorem store_bd15 (w : World) (p : Option Addr) (n c : Nat) : (storeOp 110 (.pointer (some ⟨w.heap.size, 0, none⟩)) (.agg (bcells p n c).toArray)).run Tryz.prog (w.alloc (.cells (bcells none 0 0).toArray 110)) = .ok .skip (w.alloc (.cells (bcells p n c).toArray 110)) :=
  run_storeNew w (by rw [bd_size15]; simp [bcells_length]) (by simp [bcells_length]) (bcells_all p n c)
theorem load_part15 {w0 w : World} {gb : Nat} {ys : List Hdr} {wr : Bool} {x : Not} {h : NHd} (hx : x.D.length = 32) (r : Rd w0 gb ys wr (ncells x h) w) : (loadOp 32 (.pointer (some ⟨gb, 2, none⟩))).run Tryz.prog w = .ok (.value (.agg (ncells x h).toArray)) w := by
  obtain ⟨⟨p, n, c, _, hK⟩, _, _⟩ := r
  exact load_note (o := 2) hx (fun j v hv => by rw [hK.cell, show 2 + j = j + 1 + 1 by omega, List.getElem?_cons_succ, List.getElem?_cons_succ]; exact hv)
theorem Only.iter {gb gi : Nat} {w w' : World} (h : Only gb w w') (hg : w.heap.size ≤ gi) (t : ByteArray) (p : Nat) : Only gb w (w'.iterAt gi t p) := h.next (Lib.below_iterAt (Below.refl _ _) hg t p)
theorem Bs.iter {U : List Int → Option Addr → Nat → Prop} {w0 w : World} {gb : Nat} {ys : List Hdr} {wr : Bool} {x : Not} {h : NHd} (b : Bs U w0 gb ys wr x h w) {gi : Nat} {t : ByteArray} {p : Nat} (hi : w.heap[gi]? = some (.stringIter t p)) (hg : w0.heap.size ≤ gi) (p' : Nat) : Bs U w0 gb ys wr x h (w.iterAt gi t p') := by
  have hck := cells_iterAt hi p'
  obtain ⟨⟨q, n, c, h1, h2⟩, h3, h4⟩ := b.rd
  exact ⟨⟨⟨q, n, c, h1, hck.2 _ _ _ _ h2⟩, Lib.below_iterAt h3 hg t p', h4⟩, b.ok, row_carry b.I (fun k c fz _ hk => hck.2 _ _ _ _ hk), row_carry b.W (fun k c fz _ hk => hck.2 _ _ _ _ hk), b.X, b.U⟩
theorem Bs.alloc {U : List Int → Option Addr → Nat → Prop} {w0 w w' : World} {gb : Nat} {ys : List Hdr} {wr : Bool} {x : Not} {h : NHd} (b : Bs U w0 gb ys wr x h w) (hb : Below w.heap.size w w') : Bs U w0 gb ys wr x h w' :=
  ⟨b.rd.on hb, b.ok, nrow_below b.I hb, nrow_below b.W hb, b.X, b.U⟩
theorem split_hdrs {f : Int → List Itm} {c : Int} {l : List Int} {ys : List Hdr} (h : ys.map (·.1) = (c :: l).flatMap f) : ∃ hs zs, ys = hs ++ zs ∧ hs.map (·.1) = f c ∧ zs.map (·.1) = l.flatMap f := by
  rw [List.flatMap_cons] at h
  obtain ⟨hs, zs, rfl, h1, h2⟩ := List.map_eq_append_iff.1 h
  exact ⟨hs, zs, rfl, h1, h2⟩
def NNote (U : List Int → Option Addr → Nat → Prop) (w0 : World) (x : Not) (b : Bool) (e : Ending) (w' : World) : Prop :=
  ∃ h, e = .returned (.tuple #[.agg (ncells x h).toArray, .bool b]) ∧ x.ok ∧ GoodI w0 (iB x.X) h.q h.c ∧ U x.X h.q h.c ∧ w'.ownsRow w0.heap.size 27 32 (.slice h.r x.I.length h.d) x.I.length (x.I.flatMap (fun d => d.map v8)) ∧
    w'.ownsRow w0.heap.size 57 3 (.slice h.s x.W.length h.e) x.W.length (x.W.flatMap nmc) ∧ Below w0.heap.size w0 w'
def wrongR (z : Not) (v : Int) (l : List Int) : Bool := !decide (headR z ∧ ∀ c ∈ l, okR z v c)
theorem wrong_next (z : Not) (v : Int) (l : List Int) (c : Int) : wrongR z v (l ++ [c]) = (wrongR z v l || !decide (okR z v c)) := by
  unfold wrongR
  by_cases h1 : headR z ∧ ∀ d ∈ l, okR z v d
  · by_cases h2 : okR z v c
    · have h3 : headR z ∧ ∀ d ∈ l ++ [c], okR z v d := ⟨h1.1, fun d hd => by rcases List.mem_append.1 hd with hd | hd; exact h1.2 d hd; rw [List.mem_singleton.1 hd]; exact h2⟩
      simp only [decide_eq_true h1, decide_eq_true h2, decide_eq_true h3]; rfl
    · have h3 : ¬ (headR z ∧ ∀ d ∈ l ++ [c], okR z v d) := fun h => h2 (h.2 c (by simp))
      simp only [decide_eq_true h1, decide_eq_false h2, decide_eq_false h3]; rfl
  · have h3 : ¬ (headR z ∧ ∀ d ∈ l ++ [c], okR z v d) := fun h => h1 ⟨h.1, fun d hd => h.2 d (by simp [hd])⟩
    simp only [decide_eq_false h1, decide_eq_false h3]; rfl
theorem wrong_may (z : Not) (v : Int) : decide (mayR z v) = (!wrongR z v (letters z.K) && decide (agr (noteR z v))) := by
  have e : mayR z v ↔ (headR z ∧ ∀ c ∈ letters z.K, okR z v c) ∧ agr (noteR z v) := ⟨fun h => ⟨⟨h.1, h.2.1⟩, h.2.2⟩, fun h => ⟨h.1.1, h.1.2, h.2⟩⟩
  rw [decide_eq_decide.2 e, Bool.decide_and]
  unfold wrongR
  rw [Bool.not_not]
theorem setR_I {z x : Not} {v c : Int} (h : c ≠ 105) : (setR z v x c).I = x.I := by
  unfold setR setf
  (repeat' split) <;> first | rfl | (rename_i e; exact absurd e h)
theorem setR_W {z x : Not} {v c : Int} (h : c ≠ 119) : (setR z v x c).W = x.W := by
  unfold setR setf
  (repeat' split) <;> first | rfl | (rename_i e; exact absurd e h)
theorem setR_few {z x : Not} {v c : Int} (hz : z.I.length ≤ 4000 ∧ z.W.length ≤ 4000) (hx : x.I.length ≤ 4000 ∧ x.W.length ≤ 4000) : (setR z v x c).I.length ≤ 4000 ∧ (setR z v x c).W.length ≤ 4000 := by
  unfold setR
  split
  · exact hx
  · exact setf_few hz hx c
theorem noteR_few {z : Not} (hz : z.I.length ≤ 4000 ∧ z.W.length ≤ 4000) (v : Int) : (noteR z v).I.length ≤ 4000 ∧ (noteR z v).W.length ≤ 4000 := by
  have hs : ∀ (ls : List Int) (y : Not), (y.I.length ≤ 4000 ∧ y.W.length ≤ 4000) → ((ls.foldl (setR z v) y).I.length ≤ 4000 ∧ (ls.foldl (setR z v) y).W.length ≤ 4000) := by
    intro ls
    induction ls with
    | nil => intro y hy; exact hy
    | cons c ls ih => intro y hy; exact ih _ (setR_few hz hy)
  exact hs _ _ ⟨by simp [base, none_], by simp [base, none_]⟩
structure BLoop (U : List Int → Option Addr → Nat → Prop) (w0 : World) (gb : Nat) (z : Not) (v : Int) (l : List Int) (j : Nat) (wr : World) (x : Not) (h : NHd) (rest : List Hdr) : Prop where
  bs : Bs U w0 gb rest (wrongR z v (l.take j)) x h wr
  its : rest.map (·.1) = (l.drop j).flatMap (itsR z v)
  us : ∀ y ∈ rest, U y.1.B y.2.1 y.2.2
  I0 : 105 ∈ l.drop j → x.I = [] ∧ h.r = none ∧ h.d = 0
  W0 : 119 ∈ l.drop j → x.W = [] ∧ h.s = none ∧ h.e = 0
  eq : x = (l.take j).foldl (setR z v) (base z.K z.F z.T)
end
end Go.Proofs.YtbogjfmefkhglaaGreat
