/-
  The next item is written: the contract of put.
  The next item is written, whole: the contract of put where all is well.
  Bytes are written.
  An id is written; the contract of put, whole.
  A group's letters, and a shape's, handed on to the writer's method.
  What Put answers.
  The law package of fields: num, raw.
-/
import Derived.Test.YtbogjfmefkhglaaGreatP9
import Derived.Test.YtbogjfmefkhglaaGreatP5
import Derived.Deep.RegionLaw
import Derived.Deep.AppendLies
import Derived.Test.YtbogjfmefkhglaaGreatP2
import Derived.ChangeAlike
import Derived.Test.YtbogjfmefkhglaaGreatP4
import Derived.WalkSpells
import Derived.IntWalk
import Derived.WalkLawsBesides
namespace Go.Proofs.YtbogjfmefkhglaaGreat
section
set_option linter.unusedSimpArgs false
set_option linter.unusedVariables false
open Go.RowKit Sha
open Fld (Itm)
/-- A writer under way: what is written, what is left. -/
structure WSt (w0 : World) (ga : Nat) (st : List Int × List Itm) (p : Option Addr) (c : Nat) (v : Value) (w : World) : Prop where
  mem : WMem w0.heap.size ga (.slice p st.2.length c) v st.1 w
  items : ItemsAt w0 p st.2
  le : st.2.length ≤ c
  max : c ≤ 9223372036854775807
  nil : p = none → c = 0
  below : Below w0.heap.size w0 w
  small : st.1.length + 5000 * st.2.length ≤ 1000000000
def WAt (w0 : World) (ga : Nat) (st : List Int × List Itm) (w : World) : Prop := ∃ p c v, WSt w0 ga st p c v w
def PDone (w0 : World) (ga : Nat) (c : Int) (st : List Int × List Itm) (w : World) (e : Ending) (w' : World) : Prop :=
  e = .returned (.tuple #[.int .i64 (Fld.putS c st).2.1, .int .i64 (Fld.putS c st).2.2]) ∧ WAt w0 ga (Fld.putS c st).1 w' ∧ Lib.OthersKept 5 (some ga) w w'
theorem cells_of_below {w w' : World} (h : Below w.heap.size w w') : CellsKept w w' :=
  ⟨h.size, fun k c e fz hk => by
    have hlt : k < w.heap.size := (Array.getElem?_eq_some_iff.1 hk).1
    rw [h.block k hlt]; exact hk⟩
theorem others_of_below {w w' : World} (e : TypeId) (b : Option Nat) (h : Below w.heap.size w w') : Lib.OthersKept e b w w' := fun k o hk _ _ => by
  have hlt : k < w.heap.size := (Array.getElem?_eq_some_iff.1 hk).1
  rw [h.block k hlt]; exact hk
theorem WSt.below_on {w0 w w' : World} {ga : Nat} {st : List Int × List Itm} {p : Option Addr} {c : Nat} {v : Value} (h : WSt w0 ga st p c v w) (hb : Below w.heap.size w w') : WSt w0 ga st p c v w' :=
  ⟨h.mem.carry (cells_of_below hb), h.items, h.le, h.max, h.nil, h.below.trans (hb.mono h.mem.size), h.small⟩
set_option maxRecDepth 100000 in
set_option maxHeartbeats 2000000 in
theorem put_nil (w0 : World) (ga : Nat) (c : Int) (out : List Int) (w : World) (h : WAt w0 ga (out, []) w) :
    Calls Tryz.prog 83 #[.pointer (some ⟨ga, 0, none⟩), .int .i32 c] w (PDone w0 ga c (out, []) w) := by
  obtain ⟨p, cap, v, hs⟩ := h
  have c0 : w.cell? ⟨ga, 0, none⟩ = some (.slice p 0 cap) := hs.mem.blk.cell 0
  have HS := Lib.hid hs
  clear hs
  go_enter Tryz.func83, Tryz.ntmps83
  go_wp2_with fail
  go_ret2
  exact ⟨rfl, ⟨p, cap, v, HS.out⟩, Lib.OthersKept.refl _ _ _⟩
theorem putS_no {c : Int} {out : List Int} {x : Itm} {l : List Itm} (h : Fld.okFor c x = false) : Fld.putS c (out, x :: l) = ((out, x :: l), 0, 2) := by simp [Fld.putS, h]
theorem putS_bd {c : Int} {out : List Int} {x : Itm} {l : List Itm} (h : Fld.okFor c x = true) (hb : Fld.bound c x ≠ 0) : Fld.putS c (out, x :: l) = ((out, x :: l), 0, Fld.bound c x) := by simp [Fld.putS, h, hb]
theorem putS_yes {c : Int} {out : List Int} {x : Itm} {l : List Itm} (h : Fld.okFor c x = true) (hb : Fld.bound c x = 0) : Fld.putS c (out, x :: l) = ((out ++ Fld.enc c x, l), x.N, 0) := by simp [Fld.putS, h, hb]
theorem named_is (b : Bool) (c : Int) (x : Itm) (q : Option Addr) (cap : Nat) (w : World) (hx : x.ok) (h : Fld.okFor c x = b) :
    Calls Tryz.prog 117 #[.int .i32 c, .agg (icells x q cap).toArray] w fun e w' => e = .returned (.bool b) ∧ Below w.heap.size w w' := by
  subst h; exact named_any c x q cap w hx
theorem bounded_is (b : Int) (c : Int) (x : Itm) (q : Option Addr) (cap : Nat) (w : World) (hx : x.ok) (hc : Fld.isC c) (h : Fld.bound c x = b) :
    Calls Tryz.prog 118 #[.int .i32 c, .agg (icells x q cap).toArray] w fun e w' => e = .returned (.int .i64 b) ∧ Below w.heap.size w w' := by
  subst h; exact bounded_any c x q cap w hx hc
set_option maxRecDepth 100000 in
set_option maxHeartbeats 2000000 in
theorem put_no (w0 : World) (ga : Nat) (c : Int) (out : List Int) (x : Itm) (l : List Itm) (w : World) (h : WAt w0 ga (out, x :: l) w) (ho : Fld.okFor c x = false) :
    Calls Tryz.prog 83 #[.pointer (some ⟨ga, 0, none⟩), .int .i32 c] w (PDone w0 ga c (out, x :: l) w) := by
  obtain ⟨p, cap, v, hs⟩ := h
  obtain ⟨n, hn⟩ : ∃ n, n = l.length := ⟨_, rfl⟩
  have c0 : w.cell? ⟨ga, 0, none⟩ = some (.slice p (n + 1) cap) := by rw [hn]; exact hs.mem.blk.cell 0
  obtain ⟨b, off, q, qc, rfl, hr, hg⟩ := (hs.items.below hs.below).get 0 (by simp)
  have hle : n + 1 ≤ cap := by rw [hn]; exact hs.le
  have hmx := hs.max
  simp only [List.getElem_cons_zero, Nat.zero_mul, Nat.add_zero] at hr hg
  have hsz : (Tryz.prog.info? 118).map (fun i => i.size) = some (icells x q qc).length := by rw [item_size, icells_length hg.ok]
  have HS := Lib.hid hs
  have HR := Lib.hid hr
  have HG := Lib.hid hg
  have HO := Lib.hid ho
  have HN := Lib.hid hn
  have HP := Lib.hid (putS_no (out := out) (l := l) ho)
  clear hs hr hg ho hn
  go_enter Tryz.func83, Tryz.ntmps83
  go_wp2_with (first
    | (refine BigFrame.wpList_want rfl (fun K hK => wp_load_mid 118 (.tmp 20) rfl b off rfl _ _ HR.out Tryz.underlying118 rfl hsz (hK _ _ ?_)))
    | (go_at_call 117; refine (named_is false c x q qc _ HG.out.ok HO.out).mono ?_; rintro e w1 ⟨rfl, hb1⟩))
  go_ret2
  exact ⟨by rw [HP.out]; rfl, by rw [HP.out]; exact ⟨_, _, _, HS.out.below_on hb1⟩, others_of_below _ _ hb1⟩

theorem range_belowF {w w' : World} {b o : Nat} {cs : List Value} (h : w.rangeAt b o cs) (hb : Below w.heap.size w w') : w'.rangeAt b o cs := fun j v hv => by
  have := h j v hv
  rw [hb.cell (World.block_lt_of_cell? w _ this)]; exact this
theorem icells_all (x : Itm) (q : Option Addr) (c : Nat) : (icells x q c).toArray.all (·.oneCell') = true := all_oneCell_toArray (icells_one x q c)
theorem item0_ok : Itm.ok ⟨0, [], Fld.zero32⟩ := ⟨by simp, by simp, by simp, by unfold Fld.zero32; intro n hn; have := List.eq_of_mem_replicate hn; omega, Fld.zero32_length⟩
set_option maxRecDepth 100000 in
set_option maxHeartbeats 2000000 in
theorem put_bd (w0 : World) (ga : Nat) (c e0 : Int) (hc : Fld.isC c) (out : List Int) (x : Itm) (l : List Itm) (w : World) (h : WAt w0 ga (out, x :: l) w) (ho : Fld.okFor c x = true) (hb : Fld.bound c x = e0) (he : (e0 == 0) = false) :
    Calls Tryz.prog 83 #[.pointer (some ⟨ga, 0, none⟩), .int .i32 c] w (PDone w0 ga c (out, x :: l) w) := by
  obtain ⟨p, cap, v, hs⟩ := h
  obtain ⟨n, hn⟩ : ∃ n, n = l.length := ⟨_, rfl⟩
  have c0 : w.cell? ⟨ga, 0, none⟩ = some (.slice p (n + 1) cap) := by rw [hn]; exact hs.mem.blk.cell 0
  obtain ⟨b, off, q, qc, rfl, hr, hg⟩ := (hs.items.below hs.below).get 0 (by simp)
  have hle : n + 1 ≤ cap := by rw [hn]; exact hs.le
  have hmx := hs.max
  simp only [List.getElem_cons_zero, Nat.zero_mul, Nat.add_zero] at hr hg
  have hsz : (Tryz.prog.info? 118).map (fun i => i.size) = some (icells x q qc).length := by rw [item_size, icells_length hg.ok]
  have hsz2 : (Tryz.prog.info? 118).map (fun i => i.size) = some (icells x q qc).toArray.size := by rw [hsz]; simp
  have hsz3 : (icells ⟨0, [], Fld.zero32⟩ none 0).toArray.size = (icells x q qc).toArray.size := by rw [List.size_toArray, List.size_toArray, icells_length hg.ok, icells_length item0_ok]
  have HA := Lib.hid (show ga < w.heap.size from hs.mem.blk.lt)
  have HS := Lib.hid hs
  have HR := Lib.hid hr
  have HG := Lib.hid hg
  have HO := Lib.hid ho
  have HN := Lib.hid hn
  have HP := Lib.hid (putS_bd (out := out) (l := l) ho (by rw [hb]; simpa using he))
  have HBD := Lib.hid hb
  clear hs hr hg ho hn hb
  go_enter Tryz.func83, Tryz.ntmps83
  go_wp2_with (first
    | (refine BigFrame.wpList_want rfl (fun K hK => wp_load_mid 118 (.tmp 20) rfl b off rfl _ _ HR.out Tryz.underlying118 rfl hsz (hK _ _ ?_)))
    | (go_at_call 117; refine (named_is true c x q qc _ HG.out.ok HO.out).mono ?_; rintro e w1 ⟨rfl, hb1⟩; have c0' : w1.cell? ⟨ga, 0, none⟩ = some (.slice (some ⟨b, off, none⟩) (n + 1) cap) := (hb1.cell HA.out).trans c0; have HR1 := Lib.hid (range_belowF HR.out hb1); have HB1 := Lib.hid hb1; clear hb1)
    | (refine wpList_load_mid rfl 118 (.tmp 29) rfl b off rfl _ _ HR1.out Tryz.underlying118 rfl hsz ?_)
    | (refine wpList_alloc_arr rfl 118 rfl _ item_info ?_)
    | (refine wpList_store_row rfl 118 _ _ rfl _ _ rfl rfl 118 _ (heap_alloc_new _ _) hsz2 hsz3 (icells_all _ _ _) ?_; rw [World.setRow_alloc_new]; have K3 := Blk.new w1 (icells x q qc).toArray 118; have B3 : Below w.heap.size w (w1.alloc (Obj.cells (icells x q qc).toArray 118)) := HB1.out.alloc HB1.out.size _; have hgx : w.heap.size ≤ w1.heap.size := HB1.out.size; generalize w1.alloc (Obj.cells (icells x q qc).toArray 118) = w3 at *; generalize w1.heap.size = gx at *; rw [List.toList_toArray] at K3; have HK3 := Lib.hid K3; have HB3 := Lib.hid B3; have d0 : w3.cell? ⟨ga, 0, none⟩ = some (.slice (some ⟨b, off, none⟩) (n + 1) cap) := (B3.cell HA.out).trans c0; clear K3 B3)
    | (refine wpList_load_mid rfl 118 (.tmp 6) rfl gx 0 rfl _ _ HK3.out.range Tryz.underlying118 rfl hsz ?_)
    | (go_at_call 118; refine (bounded_is e0 c x q qc _ HG.out.ok hc HBD.out).mono ?_; rintro e w4 ⟨rfl, hb4⟩))
  go_ret2
  have hb5 := HB3.out.trans (hb4.mono HB3.out.size)
  exact ⟨by rw [HP.out, HBD.out]; rfl, by rw [HP.out]; exact ⟨_, _, _, HS.out.below_on hb5⟩, others_of_below _ _ hb5⟩
end
section
set_option linter.unusedSimpArgs false
set_option linter.unusedVariables false
open Go.RowKit Sha
open Fld (Itm)
theorem ui_ne : (118 : TypeId) ≠ 5 := by decide
theorem blk_others {w w' : World} {g ga : Nat} {cs : List Value} {t e : TypeId} (h : Blk w g cs t) (hO : Lib.OthersKept e (some ga) w w') (hg : g ≠ ga) (ht : t ≠ e) : Blk w' g cs t :=
  hO g _ h (fun e => hg (Option.some.inj e)) (fun c fz he => by cases he; exact ht rfl)
theorem wmem_left {B ga : Nat} {L v : Value} {out : List Int} {w : World} (h : WMem B ga L v out w) (L' : Value) : WMem B ga L' v out (w.setCell ⟨ga, 0, none⟩ L') :=
  ⟨h.blk.set 0 L', own8_set h.own h.blk w_ne 0 L', h.base, by simpa using h.size⟩
/-- What is known behind the bounds' test and the step to the next item. -/
structure PStep (w0 w : World) (ga gx : Nat) (p' : Option Addr) (n c' : Nat) (v : Value) (out : List Int) (x : Itm) (q : Option Addr) (qc : Nat) (w5 : World) : Prop where
  mem : WMem w0.heap.size ga (.slice p' n c') v out w5
  item : Blk w5 gx (icells x q qc) 118
  ne : gx ≠ ga
  below : Below w0.heap.size w0 w5
  others : Lib.OthersKept 5 (some ga) w w5
theorem PStep.done {w0 w w6 : World} {ga gx n c' : Nat} {p' q : Option Addr} {qc : Nat} {v v2 : Value} {out out2 : List Int} {x : Itm} {w5 : World} (h : PStep w0 w ga gx p' n c' v out x q qc w5)
    (hm : WMem w0.heap.size ga (.slice p' n c') v2 out2 w6) (hb : Below w0.heap.size w5 w6) (hO : Lib.OthersKept 5 (some ga) w5 w6) : PStep w0 w ga gx p' n c' v2 out2 x q qc w6 :=
  ⟨hm, blk_others h.item hO h.ne ui_ne, h.ne, h.below.trans hb, h.others.trans hO⟩
/-- What is known ahead of the walk. -/
structure PFacts (P : Program) (w0 : World) (b off n cap : Nat) (p' : Option Addr) (c : Int) (out : List Int) (x : Itm) (l : List Itm) (q : Option Addr) (qc no m xn : Nat) : Prop where
  put : Fld.putS c (out, x :: l) = ((out ++ Fld.enc c x, l), x.N, 0)
  bd : Fld.bound c x = 0
  items : ItemsAt w0 p' l
  nil : p' = none → cap - 1 = 0
  cut : ∀ w, (Instr.sliceAt 67 (.slice (some ⟨b, off, none⟩) (n + 1) cap) (some (.int .i64 1)) none none).run P w = .ok (.slice p' n (cap - 1)) w
  hno : no = out.length
  no1 : no ≤ 999999000
  hm : m = x.B.length
  m1 : m ≤ 4000
  hxn : (xn : Int) = x.N
  xn1 : xn ≤ 9223372036854775807
  good : GoodI w0 x q qc
  enc : (Fld.enc c x).length ≤ 4009 ∧ 0 < (Fld.enc c x).length
theorem pfacts {w0 : World} {b off n cap : Nat} {c : Int} {out : List Int} {x : Itm} {l : List Itm} {q : Option Addr} {qc ga : Nat} {v : Value} {w : World} (hs : WSt w0 ga (out, x :: l) (some ⟨b, off, none⟩) cap v w) (hg : GoodI w0 x q qc) (hn : n = l.length) (ho : Fld.okFor c x = true) (hb : Fld.bound c x = 0) (hle : n + 1 ≤ cap) :
    ∃ p' no m xn, PFacts Tryz.prog w0 b off n cap p' c out x l q qc no m xn := by
  have h0 := (Fld.bound_zero hb)
  have hN := hg.ok.N1
  refine ⟨(if cap = 1 then (some ⟨b, off, none⟩ : Option Addr) else (some ⟨b, off, none⟩ : Option Addr).map (·.add 34)), out.length, x.B.length, x.N.toNat, putS_yes ho hb, hb, hs.items.tail cap (by rw [← hn]; exact hle), ?_, fun w => ?_, rfl, ?_, rfl, h0.2.2.1, by omega, by omega, hg, Fld.enc_len _ x hg.ok ho hb⟩
  · intro h; split at h
    · omega
    · simp at h
  · rw [run_cut1 Tryz.underlying67 item_size _ _ _ (by omega) w, Nat.add_sub_cancel]
  · have := hs.small; simp at this; omega
set_option maxRecDepth 100000 in
set_option maxHeartbeats 4000000 in
theorem put_n (w0 : World) (ga : Nat) (c : Int) (hc : Fld.isC c) (out : List Int) (x : Itm) (l : List Itm) (w : World) (h : WAt w0 ga (out, x :: l) w) (ho : Fld.okFor c x = true) (hb : Fld.bound c x = 0) (h98 : c ≠ 98) (h100 : c ≠ 100) :
    Calls Tryz.prog 83 #[.pointer (some ⟨ga, 0, none⟩), .int .i32 c] w (PDone w0 ga c (out, x :: l) w) := by
  obtain ⟨p, cap, v, hs⟩ := h
  obtain ⟨n, hn⟩ : ∃ n, n = l.length := ⟨_, rfl⟩
  have c0 : w.cell? ⟨ga, 0, none⟩ = some (.slice p (n + 1) cap) := by rw [hn]; exact hs.mem.blk.cell 0
  obtain ⟨b, off, q, qc, rfl, hr0, hg0⟩ := hs.items.get 0 (by simp)
  have hr := range_belowF hr0 hs.below
  have hg := hg0.below hs.below
  simp only [List.getElem_cons_zero] at hg0
  clear hr0
  have hle : n + 1 ≤ cap := by rw [hn]; exact hs.le
  have hmx := hs.max
  simp only [List.getElem_cons_zero, Nat.zero_mul, Nat.add_zero] at hr hg
  have hsz : (Tryz.prog.info? 118).map (fun i => i.size) = some (icells x q qc).length := by rw [item_size, icells_length hg.ok]
  have hsz2 : (Tryz.prog.info? 118).map (fun i => i.size) = some (icells x q qc).toArray.size := by rw [hsz]; simp
  have hsz3 : (icells ⟨0, [], Fld.zero32⟩ none 0).toArray.size = (icells x q qc).toArray.size := by rw [List.size_toArray, List.size_toArray, icells_length hg.ok, icells_length item0_ok]
  have HA := Lib.hid (show ga < w.heap.size from hs.mem.blk.lt)
  have HS := Lib.hid hs
  have HR := Lib.hid hr
  have HG := Lib.hid hg
  have HO := Lib.hid ho
  have HN := Lib.hid hn
  obtain ⟨p', no, m, xn, pf⟩ := pfacts hs hg0 hn ho hb hle
  have PF := Lib.hid pf
  have t98 : (c == 98) = false := by simpa using h98
  have t100 : (c == 100) = false := by simpa using h100
  have HENC := Lib.hid (show Fld.enc c x = Fld.num xn by unfold Fld.enc; rw [if_neg h98, if_neg h100, ← pf.hxn]; rfl)
  clear h98 h100
  clear hs hr hg hg0 ho hn hb pf
  go_enter Tryz.func83, Tryz.ntmps83
  go_wp2_with (first
    | (refine BigFrame.wpList_want rfl (fun K hK => wp_load_mid 118 (.tmp 20) rfl b off rfl _ _ HR.out Tryz.underlying118 rfl hsz (hK _ _ ?_)))
    | (go_at_call 117; refine (named_is true c x q qc _ HG.out.ok HO.out).mono ?_; rintro e w1 ⟨rfl, hb1⟩; have c0' : w1.cell? ⟨ga, 0, none⟩ = some (.slice (some ⟨b, off, none⟩) (n + 1) cap) := (hb1.cell HA.out).trans c0; have HR1 := Lib.hid (range_belowF HR.out hb1); have HB1 := Lib.hid hb1; clear hb1)
    | (refine wpList_load_mid rfl 118 (.tmp 29) rfl b off rfl _ _ HR1.out Tryz.underlying118 rfl hsz ?_)
    | (refine wpList_alloc_arr rfl 118 rfl _ item_info ?_)
    | (refine wpList_store_row rfl 118 _ _ rfl _ _ rfl rfl 118 _ (heap_alloc_new _ _) hsz2 hsz3 (icells_all _ _ _) ?_; rw [World.setRow_alloc_new]; have K3 := Blk.new w1 (icells x q qc).toArray 118; have B3 : Below w.heap.size w (w1.alloc (Obj.cells (icells x q qc).toArray 118)) := HB1.out.alloc HB1.out.size _; have hgx : w.heap.size ≤ w1.heap.size := HB1.out.size; generalize w1.alloc (Obj.cells (icells x q qc).toArray 118) = w3 at *; generalize w1.heap.size = gx at *; rw [List.toList_toArray] at K3; have HK3 := Lib.hid K3; have HB3 := Lib.hid B3; have d0 : w3.cell? ⟨ga, 0, none⟩ = some (.slice (some ⟨b, off, none⟩) (n + 1) cap) := (B3.cell HA.out).trans c0; clear K3 B3)
    | (refine wpList_load_mid rfl 118 (.tmp 6) rfl gx 0 rfl _ _ HK3.out.range Tryz.underlying118 rfl hsz ?_)
    | (have _t := tk1; refine wpList_slice_run rfl 67 (.tmp 41) _ _ rfl _ (PF.out.cut _) ?_; clear tk1 _t)
    | (go_at_call 118; refine (bounded_is 0 c x q qc _ HG.out.ok hc PF.out.bd).mono ?_; rintro e w4 ⟨rfl, hb4⟩; have hb5 := HB3.out.trans (hb4.mono HB3.out.size); have HS4 := Lib.hid (HS.out.below_on hb5); have d1 : w4.cell? ⟨ga, 0, none⟩ = some (.slice (some ⟨b, off, none⟩) (n + 1) cap) := (hb5.cell HA.out).trans c0; have f1 : w4.frozen? ⟨ga, 0, none⟩ = false := HS4.out.mem.blk.free 0; have d2 : w4.cell? ⟨ga, 1, none⟩ = some v := HS4.out.mem.blk.cell 1; have hgne : gx ≠ ga := (by have := HA.out; omega); have hit := HK3.out.below hb4 HK3.out.lt; have e0 : w4.cell? ⟨gx, 0, none⟩ = some (.int .i64 xn) := (by rw [PF.out.hxn]; exact (hit.cell 0).trans (icells_0 _ _ _)); have e1 : w4.cell? ⟨gx, 1, none⟩ = some (.slice q m qc) := (by rw [PF.out.hm]; exact (hit.cell 1).trans (icells_1 _ _ _)); have HST := Lib.hid (show PStep w0 w ga gx p' n (cap - 1) v out x q qc (w4.setCell ⟨ga, 0, none⟩ (.slice p' n (cap - 1))) from ⟨wmem_left HS4.out.mem _, hit.setOther _ _ hgne, hgne, HS4.out.below.setCell HS4.out.mem.base _, others_set (others_of_below _ _ hb5) 0 _⟩); have tk1 : True := trivial; clear hb4 hb5 hit)
    | (go_at_call 119; refine (wnum_any _ ga _ v out xn _ HST.out.mem (by have := PF.out.xn1; have := PF.out.m1; omega) (by rw [← PF.out.hno]; have := PF.out.no1; omega)).mono ?_; rintro e w6 ⟨rfl, v6, hm6, hb6, ho6⟩; have HST6 := Lib.hid (HST.out.done hm6 hb6 ho6); clear hm6 hb6 ho6; have g0 : w6.cell? ⟨gx, 0, none⟩ = some (.int .i64 xn) := (by rw [PF.out.hxn]; exact (HST6.out.item.cell 0).trans (icells_0 _ _ _)); have g1 : w6.cell? ⟨gx, 1, none⟩ = some (.slice q m qc) := (by rw [PF.out.hm]; exact (HST6.out.item.cell 1).trans (icells_1 _ _ _)); have g2 : w6.cell? ⟨ga, 1, none⟩ = some v6 := HST6.out.mem.blk.cell 1; have g3 : w6.frozen? ⟨ga, 1, none⟩ = false := HST6.out.mem.blk.free 1))
  go_ret2
  exact ⟨by rw [PF.out.put, PF.out.hxn]; rfl, by rw [PF.out.put]; exact ⟨p', cap - 1, _, by rw [HENC.out, ← HN.out]; exact HST6.out.mem, PF.out.items, by rw [← HN.out]; omega, by omega, PF.out.nil, HST6.out.below, by have h1 := HS.out.small; have h2 := PF.out.enc; simp only [List.length_cons, List.length_append] at h1 ⊢; omega⟩, HST6.out.others⟩
end
section
set_option linter.unusedSimpArgs false
set_option linter.unusedVariables false
open Go.RowKit Sha
open Fld (Itm)
theorem WMem.drew {B ga : Nat} {L v : Value} {out : List Int} {w : World} (h : WMem B ga L v out w) : WMem B ga L v out w.drew := h.carry ⟨Nat.le_refl _, fun _ _ _ _ h => h⟩
theorem WMem.app {B ga : Nat} {L v v' : Value} {out news : List Int} {w w' : World} (h : WMem B ga L v out w) (hg : w.grownBy w' v.ownBlock) (hs : B ≤ w'.heap.size)
    (k : Nat) (hk : k = news.length) (hown : Own8 w' B 5 v' (out.length + k) (out.map v8 ++ news.map v8)) : WMem B ga L v' (out ++ news) (w'.setCell ⟨ga, 1, none⟩ v') :=
  ⟨(h.grow0 hg).set 1 v', by
    subst hk
    have := own8_set hown (h.grow0 hg) w_ne 1 v'
    rwa [← List.length_append, ← List.map_append] at this, h.base, by simpa using hs⟩
set_option maxRecDepth 100000 in
set_option maxHeartbeats 4000000 in
theorem put_b (w0 : World) (ga : Nat) (out : List Int) (x : Itm) (l : List Itm) (w : World) (h : WAt w0 ga (out, x :: l) w) (ho : Fld.okFor 98 x = true) (hb : Fld.bound 98 x = 0) :
    Calls Tryz.prog 83 #[.pointer (some ⟨ga, 0, none⟩), .int .i32 98] w (PDone w0 ga 98 (out, x :: l) w) := by
  obtain ⟨p, cap, v, hs⟩ := h
  obtain ⟨n, hn⟩ : ∃ n, n = l.length := ⟨_, rfl⟩
  have c0 : w.cell? ⟨ga, 0, none⟩ = some (.slice p (n + 1) cap) := by rw [hn]; exact hs.mem.blk.cell 0
  obtain ⟨b, off, q, qc, rfl, hr0, hg0⟩ := hs.items.get 0 (by simp)
  have hr := range_belowF hr0 hs.below
  have hg := hg0.below hs.below
  simp only [List.getElem_cons_zero] at hg0
  clear hr0
  have hle : n + 1 ≤ cap := by rw [hn]; exact hs.le
  have hmx := hs.max
  simp only [List.getElem_cons_zero, Nat.zero_mul, Nat.add_zero] at hr hg
  have hsz : (Tryz.prog.info? 118).map (fun i => i.size) = some (icells x q qc).length := by rw [item_size, icells_length hg.ok]
  have hsz2 : (Tryz.prog.info? 118).map (fun i => i.size) = some (icells x q qc).toArray.size := by rw [hsz]; simp
  have hsz3 : (icells ⟨0, [], Fld.zero32⟩ none 0).toArray.size = (icells x q qc).toArray.size := by rw [List.size_toArray, List.size_toArray, icells_length hg.ok, icells_length item0_ok]
  have HA := Lib.hid (show ga < w.heap.size from hs.mem.blk.lt)
  have HS := Lib.hid hs
  have HR := Lib.hid hr
  have HG := Lib.hid hg
  have HO := Lib.hid ho
  have HN := Lib.hid hn
  obtain ⟨p', no, m, xn, pf⟩ := pfacts hs hg0 hn ho hb hle
  have PF := Lib.hid pf
  have HENC := Lib.hid (show Fld.enc 98 x = Fld.num m ++ x.B by unfold Fld.enc; rw [if_pos rfl, pf.hm])
  clear hs hr hg hg0 ho hn hb pf
  go_enter Tryz.func83, Tryz.ntmps83
  go_wp2_with (first
    | (refine BigFrame.wpList_want rfl (fun K hK => wp_load_mid 118 (.tmp 20) rfl b off rfl _ _ HR.out Tryz.underlying118 rfl hsz (hK _ _ ?_)))
    | (go_at_call 117; refine (named_is true 98 x q qc _ HG.out.ok HO.out).mono ?_; rintro e w1 ⟨rfl, hb1⟩; have c0' : w1.cell? ⟨ga, 0, none⟩ = some (.slice (some ⟨b, off, none⟩) (n + 1) cap) := (hb1.cell HA.out).trans c0; have HR1 := Lib.hid (range_belowF HR.out hb1); have HB1 := Lib.hid hb1; clear hb1)
    | (refine wpList_load_mid rfl 118 (.tmp 29) rfl b off rfl _ _ HR1.out Tryz.underlying118 rfl hsz ?_)
    | (refine wpList_alloc_arr rfl 118 rfl _ item_info ?_)
    | (refine wpList_store_row rfl 118 _ _ rfl _ _ rfl rfl 118 _ (heap_alloc_new _ _) hsz2 hsz3 (icells_all _ _ _) ?_; rw [World.setRow_alloc_new]; have K3 := Blk.new w1 (icells x q qc).toArray 118; have B3 : Below w.heap.size w (w1.alloc (Obj.cells (icells x q qc).toArray 118)) := HB1.out.alloc HB1.out.size _; have hgx : w.heap.size ≤ w1.heap.size := HB1.out.size; generalize w1.alloc (Obj.cells (icells x q qc).toArray 118) = w3 at *; generalize w1.heap.size = gx at *; rw [List.toList_toArray] at K3; have HK3 := Lib.hid K3; have HB3 := Lib.hid B3; have d0 : w3.cell? ⟨ga, 0, none⟩ = some (.slice (some ⟨b, off, none⟩) (n + 1) cap) := (B3.cell HA.out).trans c0; clear K3 B3)
    | (refine wpList_load_mid rfl 118 (.tmp 6) rfl gx 0 rfl _ _ HK3.out.range Tryz.underlying118 rfl hsz ?_)
    | (have _t := tk1; refine wpList_slice_run rfl 67 (.tmp 41) _ _ rfl _ (PF.out.cut _) ?_; clear tk1 _t)
    | (go_at_call 118; refine (bounded_is 0 98 x q qc _ HG.out.ok (Or.inr (Or.inl rfl)) PF.out.bd).mono ?_; rintro e w4 ⟨rfl, hb4⟩; have hb5 := HB3.out.trans (hb4.mono HB3.out.size); have HS4 := Lib.hid (HS.out.below_on hb5); have d1 : w4.cell? ⟨ga, 0, none⟩ = some (.slice (some ⟨b, off, none⟩) (n + 1) cap) := (hb5.cell HA.out).trans c0; have f1 : w4.frozen? ⟨ga, 0, none⟩ = false := HS4.out.mem.blk.free 0; have d2 : w4.cell? ⟨ga, 1, none⟩ = some v := HS4.out.mem.blk.cell 1; have hgne : gx ≠ ga := (by have := HA.out; omega); have hit := HK3.out.below hb4 HK3.out.lt; have e0 : w4.cell? ⟨gx, 0, none⟩ = some (.int .i64 xn) := (by rw [PF.out.hxn]; exact (hit.cell 0).trans (icells_0 _ _ _)); have e1 : w4.cell? ⟨gx, 1, none⟩ = some (.slice q m qc) := (by rw [PF.out.hm]; exact (hit.cell 1).trans (icells_1 _ _ _)); have HST := Lib.hid (show PStep w0 w ga gx p' n (cap - 1) v out x q qc (w4.setCell ⟨ga, 0, none⟩ (.slice p' n (cap - 1))) from ⟨wmem_left HS4.out.mem _, hit.setOther _ _ hgne, hgne, HS4.out.below.setCell HS4.out.mem.base _, others_set (others_of_below _ _ hb5) 0 _⟩); have tk1 : True := trivial; clear hb4 hb5 hit)
    | (go_at_call 119; refine (wnum_any _ ga _ v out m _ HST.out.mem (by have := PF.out.xn1; have := PF.out.m1; omega) (by rw [← PF.out.hno]; have := PF.out.no1; omega)).mono ?_; rintro e w6 ⟨rfl, v6, hm6, hb6, ho6⟩; have HST6 := Lib.hid (HST.out.done hm6 hb6 ho6); clear hm6 hb6 ho6; have g0 : w6.cell? ⟨gx, 0, none⟩ = some (.int .i64 xn) := (by rw [PF.out.hxn]; exact (HST6.out.item.cell 0).trans (icells_0 _ _ _)); have g1 : w6.cell? ⟨gx, 1, none⟩ = some (.slice q m qc) := (by rw [PF.out.hm]; exact (HST6.out.item.cell 1).trans (icells_1 _ _ _)); have g2 : w6.cell? ⟨ga, 1, none⟩ = some v6 := HST6.out.mem.blk.cell 1; have g3 : w6.frozen? ⟨ga, 1, none⟩ = false := HST6.out.mem.blk.free 1))
  go_region_law ((refine step_app8 (by rfl) (.tmp 61) (.tmp 63) 28 (by rfl) w0.heap.size 5 Tryz.underlying28 kbyte_info v6 _ _ (by rfl) HST6.out.mem.own.drew q m qc ((x.B).map v8) (by rfl) ((PF.out.good.at_.below HST6.out.below).drew) (by rw [List.length_map, PF.out.hm]) PF.out.good.nil (by rw [PF.out.hm]; exact PF.out.good.le) (ints_map _) (by simp only [List.length_append]; rw [← PF.out.hno]; have := PF.out.no1; have := PF.out.m1; have := Fld.num_len m (by rw [show (128 : Nat) ^ 9 = 9223372036854775808 by decide]; have := PF.out.m1; omega); omega) (by unfold maxLen; simp only [List.length_append]; rw [← PF.out.hno]; have := PF.out.no1; have := PF.out.m1; have := Fld.num_len m (by rw [show (128 : Nat) ^ 9 = 9223372036854775808 by decide]; have := PF.out.m1; omega); omega) HST6.out.mem.size ?_; intro va w8 hown8 hg8 hb8 hs8; obtain ⟨g8, c8, rfl, _, _, _, _⟩ := own_form hown8.row (by have := Fld.num_pos m; simp only [List.length_append]; omega); have HM8 := Lib.hid (WMem.app (news := x.B) HST6.out.mem.drew hg8 hs8 _ PF.out.hm hown8); have HO8 := Lib.hid (HST6.out.mem.drew.others0 (Lib.OthersKept.refl _ _ _).drew hg8 : Lib.OthersKept 5 (some ga) w6 w8); have hit := blk_others HST6.out.item HO8.out HST6.out.ne ui_ne; have h0 : w8.cell? ⟨gx, 0, none⟩ = some (.int .i64 xn) := (by rw [PF.out.hxn]; exact (hit.cell 0).trans (icells_0 _ _ _)); have hk := HST6.out.mem.drew.grow0 hg8; have h1 : w8.cell? ⟨ga, 1, none⟩ = some v6 := hk.cell 1; have h2 : w8.frozen? ⟨ga, 1, none⟩ = false := hk.free 1; have hne8 : gx ≠ ga := HST6.out.ne; have HB8 := Lib.hid ((Below.refl w0.heap.size w6).drew.trans hb8); clear hown8 hg8 hb8 hit hk; generalize (out ++ Fld.num m).length + m = nn at *))
  all_goals
    go_wp2_with fail
    have HST8 := Lib.hid (HST6.out.done HM8.out (HB8.out.setCell (p := ⟨ga, 1, none⟩) HST6.out.mem.base _) (others_set HO8.out 1 _))
    go_ret2
    exact ⟨by rw [PF.out.put, PF.out.hxn]; rfl, by rw [PF.out.put]; exact ⟨p', cap - 1, _, by rw [HENC.out, ← HN.out, ← List.append_assoc]; exact HST8.out.mem, PF.out.items, by rw [← HN.out]; omega, by omega, PF.out.nil, HST8.out.below, by have h1 := HS.out.small; have h2 := PF.out.enc; simp only [List.length_cons, List.length_append] at h1 ⊢; omega⟩, HST8.out.others⟩
end
section
set_option linter.unusedSimpArgs false
set_option linter.unusedVariables false
open Go.RowKit Sha
open Fld (Itm)
set_option maxRecDepth 100000 in
set_option maxHeartbeats 4000000 in
theorem put_d (w0 : World) (ga : Nat) (out : List Int) (x : Itm) (l : List Itm) (w : World) (h : WAt w0 ga (out, x :: l) w) (ho : Fld.okFor 100 x = true) (hb : Fld.bound 100 x = 0) :
    Calls Tryz.prog 83 #[.pointer (some ⟨ga, 0, none⟩), .int .i32 100] w (PDone w0 ga 100 (out, x :: l) w) := by
  obtain ⟨p, cap, v, hs⟩ := h
  obtain ⟨n, hn⟩ : ∃ n, n = l.length := ⟨_, rfl⟩
  have c0 : w.cell? ⟨ga, 0, none⟩ = some (.slice p (n + 1) cap) := by rw [hn]; exact hs.mem.blk.cell 0
  obtain ⟨b, off, q, qc, rfl, hr0, hg0⟩ := hs.items.get 0 (by simp)
  have hr := range_belowF hr0 hs.below
  have hg := hg0.below hs.below
  simp only [List.getElem_cons_zero] at hg0
  clear hr0
  have hle : n + 1 ≤ cap := by rw [hn]; exact hs.le
  have hmx := hs.max
  simp only [List.getElem_cons_zero, Nat.zero_mul, Nat.add_zero] at hr hg
  have hsz : (Tryz.prog.info? 118).map (fun i => i.size) = some (icells x q qc).length := by rw [item_size, icells_length hg.ok]
  have hsz2 : (Tryz.prog.info? 118).map (fun i => i.size) = some (icells x q qc).toArray.size := by rw [hsz]; simp
  have hsz3 : (icells ⟨0, [], Fld.zero32⟩ none 0).toArray.size = (icells x q qc).toArray.size := by rw [List.size_toArray, List.size_toArray, icells_length hg.ok, icells_length item0_ok]
  have HA := Lib.hid (show ga < w.heap.size from hs.mem.blk.lt)
  have HS := Lib.hid hs
  have HR := Lib.hid hr
  have HG := Lib.hid hg
  have HO := Lib.hid ho
  have HN := Lib.hid hn
  obtain ⟨p', no, m, xn, pf⟩ := pfacts hs hg0 hn ho hb hle
  have PF := Lib.hid pf
  have HENC := Lib.hid (show Fld.enc 100 x = x.D by unfold Fld.enc; rw [if_neg (by decide), if_pos rfl])
  clear hs hr hg hg0 ho hn hb pf
  go_enter Tryz.func83, Tryz.ntmps83
  go_wp2_with (first
    | (refine BigFrame.wpList_want rfl (fun K hK => wp_load_mid 118 (.tmp 20) rfl b off rfl _ _ HR.out Tryz.underlying118 rfl hsz (hK _ _ ?_)))
    | (go_at_call 117; refine (named_is true 100 x q qc _ HG.out.ok HO.out).mono ?_; rintro e w1 ⟨rfl, hb1⟩; have c0' : w1.cell? ⟨ga, 0, none⟩ = some (.slice (some ⟨b, off, none⟩) (n + 1) cap) := (hb1.cell HA.out).trans c0; have HR1 := Lib.hid (range_belowF HR.out hb1); have HB1 := Lib.hid hb1; clear hb1)
    | (refine wpList_load_mid rfl 118 (.tmp 29) rfl b off rfl _ _ HR1.out Tryz.underlying118 rfl hsz ?_)
    | (refine wpList_alloc_arr rfl 118 rfl _ item_info ?_)
    | (refine wpList_store_row rfl 118 _ _ rfl _ _ rfl rfl 118 _ (heap_alloc_new _ _) hsz2 hsz3 (icells_all _ _ _) ?_; rw [World.setRow_alloc_new]; have K3 := Blk.new w1 (icells x q qc).toArray 118; have B3 : Below w.heap.size w (w1.alloc (Obj.cells (icells x q qc).toArray 118)) := HB1.out.alloc HB1.out.size _; have hgx : w.heap.size ≤ w1.heap.size := HB1.out.size; generalize w1.alloc (Obj.cells (icells x q qc).toArray 118) = w3 at *; generalize w1.heap.size = gx at *; rw [List.toList_toArray] at K3; have HK3 := Lib.hid K3; have HB3 := Lib.hid B3; have d0 : w3.cell? ⟨ga, 0, none⟩ = some (.slice (some ⟨b, off, none⟩) (n + 1) cap) := (B3.cell HA.out).trans c0; clear K3 B3)
    | (refine wpList_load_mid rfl 118 (.tmp 6) rfl gx 0 rfl _ _ HK3.out.range Tryz.underlying118 rfl hsz ?_)
    | (have _t := tk1; refine wpList_slice_run rfl 67 (.tmp 41) _ _ rfl _ (PF.out.cut _) ?_; clear tk1 _t)
    | (go_at_call 118; refine (bounded_is 0 100 x q qc _ HG.out.ok (Or.inr (Or.inr (Or.inl rfl))) PF.out.bd).mono ?_; rintro e w4 ⟨rfl, hb4⟩; have hb5 := HB3.out.trans (hb4.mono HB3.out.size); have HS4 := Lib.hid (HS.out.below_on hb5); have d1 : w4.cell? ⟨ga, 0, none⟩ = some (.slice (some ⟨b, off, none⟩) (n + 1) cap) := (hb5.cell HA.out).trans c0; have f1 : w4.frozen? ⟨ga, 0, none⟩ = false := HS4.out.mem.blk.free 0; have d2 : w4.cell? ⟨ga, 1, none⟩ = some v := HS4.out.mem.blk.cell 1; have hgne : gx ≠ ga := (by have := HA.out; omega); have hit := HK3.out.below hb4 HK3.out.lt; have e0 : w4.cell? ⟨gx, 0, none⟩ = some (.int .i64 xn) := (by rw [PF.out.hxn]; exact (hit.cell 0).trans (icells_0 _ _ _)); have e1 : w4.cell? ⟨gx, 1, none⟩ = some (.slice q m qc) := (by rw [PF.out.hm]; exact (hit.cell 1).trans (icells_1 _ _ _)); have HST := Lib.hid (show PStep w0 w ga gx p' n (cap - 1) v out x q qc (w4.setCell ⟨ga, 0, none⟩ (.slice p' n (cap - 1))) from ⟨wmem_left HS4.out.mem _, hit.setOther _ _ hgne, hgne, HS4.out.below.setCell HS4.out.mem.base _, others_set (others_of_below _ _ hb5) 0 _⟩); have tk1 : True := trivial; clear hb4 hb5 hit))
  go_region_law ((refine step_app8 (by rfl) (.tmp 73) (.tmp 75) 28 (by rfl) w0.heap.size 5 Tryz.underlying28 kbyte_info v _ _ (by rfl) HST.out.mem.own.drew (some ⟨gx, 2, none⟩) 32 32 ((x.D).map v8) (by rfl) (Or.inr ⟨gx, 2, rfl, HST.out.item.rangeId⟩) (by rw [List.length_map, PF.out.good.ok.len]) (by intro h; cases h) (Nat.le_refl _) (ints_map _) (by rw [← PF.out.hno]; have := PF.out.no1; omega) (by unfold maxLen; rw [← PF.out.hno]; have := PF.out.no1; omega) HST.out.mem.size ?_; intro va w8 hown8 hg8 hb8 hs8; obtain ⟨g8, c8, rfl, _, _, _, _⟩ := own_form hown8.row (by have := Nat.zero_le no; omega); have HM8 := Lib.hid (WMem.app (news := x.D) HST.out.mem.drew hg8 hs8 _ PF.out.good.ok.len.symm hown8); have HO8 := Lib.hid (HST.out.mem.drew.others0 (Lib.OthersKept.refl _ _ _).drew hg8 : Lib.OthersKept 5 (some ga) (w4.setCell ⟨ga, 0, none⟩ (.slice p' n (cap - 1))) w8); have hit := blk_others HST.out.item HO8.out HST.out.ne ui_ne; have h0 : w8.cell? ⟨gx, 0, none⟩ = some (.int .i64 xn) := (by rw [PF.out.hxn]; exact (hit.cell 0).trans (icells_0 _ _ _)); have hk := HST.out.mem.drew.grow0 hg8; have h1 : w8.cell? ⟨ga, 1, none⟩ = some v := hk.cell 1; have h2 : w8.frozen? ⟨ga, 1, none⟩ = false := hk.free 1; have hne8 : gx ≠ ga := HST.out.ne; have HB8 := Lib.hid ((Below.refl w0.heap.size (w4.setCell ⟨ga, 0, none⟩ (.slice p' n (cap - 1)))).drew.trans hb8); clear hown8 hg8 hb8 hit hk; generalize out.length + 32 = nn at *))
  all_goals
    go_wp2_with fail
    have HST8 := Lib.hid (HST.out.done HM8.out (HB8.out.setCell (p := ⟨ga, 1, none⟩) HST.out.mem.base _) (others_set HO8.out 1 _))
    go_ret2
    exact ⟨by rw [PF.out.put, PF.out.hxn]; rfl, by rw [PF.out.put]; exact ⟨p', cap - 1, _, by rw [HENC.out, ← HN.out]; exact HST8.out.mem, PF.out.items, by rw [← HN.out]; omega, by omega, PF.out.nil, HST8.out.below, by have h1 := HS.out.small; have h2 := PF.out.enc; simp only [List.length_cons, List.length_append] at h1 ⊢; omega⟩, HST8.out.others⟩
theorem put_any (w0 : World) (ga : Nat) (c : Int) (hc : Fld.isC c) (st : List Int × List Itm) (w : World) (h : WAt w0 ga st w) :
    Calls Tryz.prog 83 #[.pointer (some ⟨ga, 0, none⟩), .int .i32 c] w (PDone w0 ga c st w) := by
  obtain ⟨out, l⟩ := st
  cases l with
  | nil => exact put_nil w0 ga c out w h
  | cons x l =>
    by_cases ho : Fld.okFor c x = true
    · by_cases hb : Fld.bound c x = 0
      · by_cases h98 : c = 98
        · subst h98; exact put_b w0 ga out x l w h ho hb
        · by_cases h100 : c = 100
          · subst h100; exact put_d w0 ga out x l w h ho hb
          · exact put_n w0 ga c hc out x l w h ho hb h98 h100
      · exact put_bd w0 ga c _ hc out x l w h ho rfl (by simpa using hb)
    · exact put_no w0 ga c out x l w h (by simpa using ho)
end
section
set_option linter.unusedSimpArgs false
set_option linter.unusedVariables false
open Go.RowKit Sha
set_option maxRecDepth 100000 in
set_option maxHeartbeats 2000000 in
theorem repeat_w {σ : Type} {ga B : Nat} {f : Int → σ → σ × Int × Int} {R : σ → World → Prop} (D : Doer Tryz.prog 83 ga B f R) (g : ByteArray) (gl : List Int) (hgl : gl = nums g) (hg : ∀ c ∈ gl, Fld.isC c) (times : Int) (ht : times ≤ 9223372036854775807) (st : σ) (w : World) (hR : R st w) (hs : g.size ≤ 40) :
    Calls Tryz.prog 94 #[.string g, .int .i64 times, .func (.func 83) #[.pointer (some ⟨ga, 0, none⟩)] #[]] w (RDone R (Fld.rep f gl times.toNat st) w) := by
  have HR := Lib.hid hR
  have HD := Lib.hid D
  have HG := Lib.hid hg
  have HL := Lib.hid hgl
  have H128 := Lib.hid (show ∀ c ∈ nums g, c < 128 from fun c hc => isC_lt (hg c (by rw [hgl]; exact hc)))
  clear hR D hg hgl
  obtain ⟨T, hT⟩ : ∃ T, T = times.toNat := ⟨_, rfl⟩
  rw [← hT]
  have hT1 : T = times.toNat := hT
  have HT := Lib.hid hT
  clear hT hT1
  go_enter Tryz.func94, Tryz.ntmps94
  go_wp2_with fail
  go_loopg [12] T (fun gh i wr => ∃ (k : Nat) (sk : σ), i = .int .i64 k ∧ gh = T - k ∧ k ≤ T ∧ Hid (Fld.rep f gl T st = Fld.rep f gl (T - k) sk) ∧ Hid (R sk wr) ∧ Hid (ItersKept w wr))
  case atStart => exact ⟨0, st, rfl, rfl, by omega, rfl, HR, ItersKept.refl _⟩
  case round =>
    obtain ⟨k, sk, rfl, rfl, hk, HE, HK, HO⟩ := hrel
    clear HR
    by_cases hlt : (k : Int) < times
    · have hkT : k + 1 ≤ T := by have := HT.out; omega
      have HE1 := Lib.hid (show Fld.rep f gl T st = Fld.rep f gl ((T - (k + 1)) + 1) sk by rw [show T - (k + 1) + 1 = T - k by omega]; exact HE.out)
      clear HE
      go_wp2_with fail
      have HI0 := Lib.hid (World.iter_heap wr g 0)
      have HK0 := Lib.hid (HD.out.keepA _ _ (.stringIter g 0) HK.out)
      have HO0 := Lib.hid (ItersBut.new HO.out (.stringIter g 0))
      have HS := Lib.hid (show (wr.iter g 0) = wr.alloc (.stringIter g 0) from rfl)
      rw [← HS.out] at HK0 HO0
      clear HS
      have hgb := HD.out.base _ _ HK.out
      generalize wr.iter g 0 = wz at *
      generalize wr.heap.size = gi at *
      go_loopg [8] g.size (fun gh2 c wi => ∃ (j : Nat) (sj : σ), j ≤ g.size ∧ gh2 = g.size - j ∧ Hid (wi.heap[gi]? = some (.stringIter g j)) ∧ Hid (Fld.once f gl sk = Fld.once f ((nums g).drop j) sj) ∧ Hid (R sj wi) ∧ Hid (ItersBut gi w wi))
      case atStart => exact ⟨0, sk, by omega, rfl, HI0, Lib.hid (by rw [List.drop_zero, HL.out]), HK0, HO0⟩
      case round =>
        obtain ⟨j, sj, hj, rfl, HI, HF, HJ, HP⟩ := hrel
        clear HI0 HK0 HO0 HK HO
        by_cases hp : j < g.size
        · obtain ⟨c, hn, hd⟩ := next_isL Tryz.prog g j hp H128.out
          have hnx := fun ty => hn.run wr gi ty HI.out
          have HC := Lib.hid (HG.out c (by rw [HL.out]; exact List.mem_of_mem_drop (by rw [hd]; exact List.mem_cons_self ..)))
          have HI2 := Lib.hid (Lib.iterAt_heap _ _ _ _ (j + 1) HI.out)
          have HJ2 := Lib.hid (HD.out.keepI _ _ _ _ _ (j + 1) HJ.out hgb HI.out)
          have HP2 := Lib.hid (HP.out.move g (j + 1))
          have HF2 := Lib.hid (HF.out.trans (congrArg (fun l => Fld.once f l sj) hd))
          clear hd hn
          by_cases h0 : (f c sj).2.2 = 0
          · have h0' : ((f c sj).2.2 == 0) = true := by simpa using h0
            have HN := Lib.hid (HF2.out.trans (once_ok h0))
            have H0 := Lib.hid h0
            clear h0
            go_wp2_with fail
            refine (HD.out.step c sj _ HC.out HJ2.out).mono ?_
            rintro e w2 ⟨rfl, hr2, hi2⟩
            have HR2 := Lib.hid hr2
            have HI3 := Lib.hid (hi2 _ _ _ HI2.out)
            have HP3 := Lib.hid (HP2.out.on hi2)
            clear hr2 hi2
            go_wp2_with fail
            go_roundg (g.size - (j + 1))
            case measure => omega
            case rel => exact ⟨j + 1, _, by omega, rfl, HI3, HN, HR2, HP3⟩
          · have h0' : ((f c sj).2.2 == 0) = false := by simpa using h0
            have HN := Lib.hid (HE1.out.trans (rep_err (HF2.out.trans (once_err h0)) h0))
            clear h0
            go_wp2_with fail
            refine (HD.out.step c sj _ HC.out HJ2.out).mono ?_
            rintro e w2 ⟨rfl, hr2, hi2⟩
            have HR2 := Lib.hid hr2
            have HP3 := Lib.hid (HP2.out.on hi2)
            clear hr2 hi2
            go_wp2_with fail
            try rw [Exit.noGoto_ret]
            go_ret
            exact ⟨by rw [HN.out]; rfl, by rw [HN.out]; exact HR2.out, HP3.out.kept⟩
        · obtain rfl : j = g.size := by omega
          have hnx := fun ty => Lib.run_next_end_at (P := Tryz.prog) wr gi g g.size ty HI.out (by omega)
          have HN := Lib.hid (HE1.out.trans (rep_ok (HF.out.trans (by rw [← nums_length, List.drop_length]; rfl))))
          go_wp2_with fail
          go_roundg (T - (k + 1))
          case measure => omega
          case rel => exact ⟨k + 1, sj, by go_num, rfl, by omega, HN, HJ, HP.out.kept⟩
    · have HZ := Lib.hid (show Fld.rep f gl T st = (sk, 0) by rw [HE.out, show T - k = 0 by have := HT.out; omega]; rfl)
      go_wp2_with fail
      go_ret
      exact ⟨by rw [HZ.out]; rfl, by rw [HZ.out]; exact HK.out, HO.out⟩
set_option maxRecDepth 100000 in
set_option maxHeartbeats 2000000 in
theorem walk_w {σ : Type} {ga B : Nat} {f : Int → σ → σ × Int × Int} {R : σ → World → Prop} (D : Doer Tryz.prog 83 ga B f R) (s : ByteArray) (hs : s.size ≤ 40) (hc : Fld.chkL (nums s) false false = true) (st : σ) (w : World) (hR : R st w) :
    Calls Tryz.prog 68 #[.string s, .func (.func 83) #[.pointer (some ⟨ga, 0, none⟩)] #[]] w (RDone R (Fld.walkL f none 0 (nums s) st) w) := by
  have H128 := Lib.hid (chkL_lt _ _ _ hc)
  have HW0 := Lib.hid (show WRel f (nums s) st 0 0 0 none false st from ⟨Or.inl ⟨rfl, rfl⟩, by simp, by rw [List.drop_zero]; exact hc, by rw [List.drop_zero]⟩)
  have HD := Lib.hid D
  have HR := Lib.hid hR
  clear hc D hR
  obtain ⟨l, hl⟩ : ∃ l, l = nums s := ⟨_, rfl⟩
  rw [← hl] at HW0 H128 ⊢
  have HL := Lib.hid hl
  have HS := Lib.hid (show l.length = s.size by rw [hl, nums_length])
  clear hl
  go_enter Tryz.func68, Tryz.ntmps68
  go_wp2_with fail
  go_step3
  go_wp2_with fail
  go_step3
  go_wp2_with fail
  have HI0 := Lib.hid (World.iter_heap w s 0)
  have HK0 := Lib.hid (HD.out.keepA _ _ (.stringIter s 0) HR.out)
  have HO0 := Lib.hid (ItersBut.new (ItersKept.refl w) (.stringIter s 0))
  have HZ := Lib.hid (show (w.iter s 0) = w.alloc (.stringIter s 0) from rfl)
  rw [← HZ.out] at HK0 HO0
  have hgb := HD.out.base _ _ HR.out
  clear HZ HR
  generalize w.iter s 0 = wz at *
  obtain ⟨gi, hgi⟩ : ∃ gi, gi = w.heap.size := ⟨_, rfl⟩
  rw [← hgi] at HI0 HO0 hgb ⊢
  clear hgi
  go_loopg [5, 6] s.size (fun gh b t wr => ∃ (k bg : Nat) (tt : Int) (gO : Option (List Int)) (kk : Bool) (sk : σ), k ≤ s.size ∧ gh = s.size - k ∧ b = .int .i64 bg ∧ t = .int .i64 tt ∧ tt ≤ 9223372036854775807 ∧ Hid (wr.heap[gi]? = some (.stringIter s k)) ∧ Hid (WRel f l st k bg tt gO kk sk) ∧ Hid (R sk wr) ∧ Hid (ItersBut gi w wr))
  case atStart => exact ⟨0, 0, 0, none, false, st, by omega, rfl, rfl, rfl, by omega, HI0, HW0, HK0, HO0⟩
  case round =>
    obtain ⟨k, bg, tt, gO, kk, sk, hk, rfl, rfl, rfl, htt, HI, HW, HJ, HP⟩ := hrel
    clear HI0 HK0 HO0 HW0
    by_cases hp : k < s.size
    · obtain ⟨c, hn, hd⟩ := next_isL Tryz.prog s k hp (by rw [← HL.out]; exact H128.out)
      rw [← HL.out] at hd
      have hnx := fun ty => hn.run wr gi ty HI.out
      have HI2 := Lib.hid (Lib.iterAt_heap _ _ _ _ (k + 1) HI.out)
      have HJ2 := Lib.hid (HD.out.keepI _ _ _ _ _ (k + 1) HJ.out hgb HI.out)
      have HP2 := Lib.hid (HP.out.move s (k + 1))
      have HDR := Lib.hid hd
      clear hd hn
      cases gO with
      | none =>
        have hbg : bg = 0 := by
          rcases HW.out.grp with h | ⟨cs, h, _⟩
          · exact h.2
          · cases h
        subst hbg
        have hck := HW.out.chk
        rw [HDR.out] at hck
        by_cases h0 : (f c sk).2.2 = 0
        · have h0' : ((f c sk).2.2 == 0) = true := by simpa using h0
          have hlim := (HD.out.lim c sk _ HJ.out).1
          rcases chkL_none hck with ⟨hC, h40, _⟩ | ⟨h40, _⟩
          · have HN := Lib.hid (HW.out.one HDR.out h40 h0)
            have HC := Lib.hid hC
            have t40 : (c == 40) = false := by simpa using h40
            have t41 : (c == 41) = false := by rw [beq_eq_false_iff_ne]; unfold Fld.isC at hC; omega
            clear h0 hck h40 hC
            go_wp2_with fail
            refine (HD.out.step c sk _ HC.out HJ2.out).mono ?_
            rintro e w2 ⟨rfl, hr2, hi2⟩
            have HR2 := Lib.hid hr2
            have HI3 := Lib.hid (hi2 _ _ _ HI2.out)
            have HP3 := Lib.hid (HP2.out.on hi2)
            clear hr2 hi2
            go_wp2_with fail
            go_roundg (s.size - (k + 1))
            case measure => omega
            case rel => exact ⟨k + 1, 0, _, none, true, _, by omega, rfl, rfl, rfl, hlim, HI3, HN, HR2, HP3⟩
          · subst h40
            have HN := Lib.hid (HW.out.open_ HDR.out rfl h0)
            have HC := Lib.hid (show Fld.isC 40 from Or.inr (Or.inr (Or.inr rfl)))
            clear h0 hck
            go_wp2_with fail
            refine (HD.out.step 40 sk _ HC.out HJ2.out).mono ?_
            rintro e w2 ⟨rfl, hr2, hi2⟩
            have HR2 := Lib.hid hr2
            have HI3 := Lib.hid (hi2 _ _ _ HI2.out)
            have HP3 := Lib.hid (HP2.out.on hi2)
            clear hr2 hi2
            go_wp2_with fail
            go_roundg (s.size - (k + 1))
            case measure => omega
            case rel => exact ⟨k + 1, k + 1, _, some [], false, _, by omega, rfl, by go_num, rfl, hlim, HI3, HN, HR2, HP3⟩
        · have h0' : ((f c sk).2.2 == 0) = false := by simpa using h0
          have HN := Lib.hid (HW.out.walk.trans ((congrArg (fun x => Fld.walkL f none tt x sk) HDR.out).trans (walk_err h0)))
          rcases chkL_none hck with ⟨hC, h40, _⟩ | ⟨h40, _⟩
          · have HC := Lib.hid hC
            have t40 : (c == 40) = false := by simpa using h40
            have t41 : (c == 41) = false := by rw [beq_eq_false_iff_ne]; unfold Fld.isC at hC; omega
            clear h0 hck h40 hC
            go_wp2_with fail
            refine (HD.out.step c sk _ HC.out HJ2.out).mono ?_
            rintro e w2 ⟨rfl, hr2, hi2⟩
            have HR2 := Lib.hid hr2
            have HP3 := Lib.hid (HP2.out.on hi2)
            clear hr2 hi2
            go_wp2_with fail
            try rw [Exit.noGoto_ret]
            go_ret
            exact ⟨by rw [HN.out]; rfl, by rw [HN.out]; exact HR2.out, HP3.out.kept⟩
          · subst h40
            have HC := Lib.hid (show Fld.isC 40 from Or.inr (Or.inr (Or.inr rfl)))
            clear h0 hck
            go_wp2_with fail
            refine (HD.out.step 40 sk _ HC.out HJ2.out).mono ?_
            rintro e w2 ⟨rfl, hr2, hi2⟩
            have HR2 := Lib.hid hr2
            have HP3 := Lib.hid (HP2.out.on hi2)
            clear hr2 hi2
            go_wp2_with fail
            try rw [Exit.noGoto_ret]
            go_ret
            exact ⟨by rw [HN.out]; rfl, by rw [HN.out]; exact HR2.out, HP3.out.kept⟩
      | some cs =>
        obtain ⟨hb0, hbk, hcs⟩ : 0 < bg ∧ bg ≤ k ∧ cs = (l.take k).drop bg := by
          rcases HW.out.grp with h | ⟨cs', h, h1, h2, h3⟩
          · cases h.1
          · cases h; exact ⟨h1, h2, h3⟩
        by_cases h41 : c = 41
        · subst h41
          have HX := Lib.hid (show cs = nums (s.extract bg k) by rw [nums_extract, ← HL.out]; exact hcs)
          have HXL := Lib.hid (show (s.extract bg k).size ≤ 40 by rw [ByteArray.size_extract]; omega)
          clear hcs
          obtain ⟨r, hr⟩ : ∃ r, r = Fld.rep f cs tt.toNat sk := ⟨_, rfl⟩
          obtain ⟨sk', er⟩ := r
          have HRP := Lib.hid hr
          clear hr
          by_cases h0 : er = 0
          · have HN := Lib.hid (HW.out.shut HDR.out (by rw [← HRP.out, h0]))
            have h0' : (er == 0) = true := by simpa using h0
            clear h0
            go_wp2_with fail
            refine (repeat_w HD.out _ cs HX.out (HW.out.ok cs rfl) tt htt sk _ HJ2.out HXL.out).mono ?_
            rw [← HRP.out]
            rintro e w2 ⟨rfl, hr2, hi2⟩
            have HR2 := Lib.hid hr2
            have HI3 := Lib.hid (hi2 _ _ _ HI2.out)
            have HP3 := Lib.hid (HP2.out.on hi2)
            clear hr2 hi2
            go_wp2_with fail
            try rw [Exit.noGoto_ret]
            go_roundg (s.size - (k + 1))
            case measure => omega
            case rel => exact ⟨k + 1, 0, tt, none, kk, sk', by omega, rfl, rfl, rfl, htt, HI3, HN, HR2, HP3⟩
          · have HN := Lib.hid (HW.out.walk.trans ((congrArg (fun x => Fld.walkL f (some cs) tt x sk) HDR.out).trans (walk_bad HRP.out.symm h0)))
            have h0' : (er == 0) = false := by simpa using h0
            clear h0
            go_wp2_with fail
            refine (repeat_w HD.out _ cs HX.out (HW.out.ok cs rfl) tt htt sk _ HJ2.out HXL.out).mono ?_
            rw [← HRP.out]
            rintro e w2 ⟨rfl, hr2, hi2⟩
            have HR2 := Lib.hid hr2
            have HP3 := Lib.hid (HP2.out.on hi2)
            clear hr2 hi2
            go_wp2_with fail
            try rw [Exit.noGoto_ret]
            go_ret
            exact ⟨by rw [HN.out]; rfl, by rw [HN.out]; exact HR2.out, HP3.out.kept⟩
        · have HN := Lib.hid (HW.out.in_ HDR.out h41)
          have t41 : (c == 41) = false := by simpa using h41
          clear h41 hcs
          go_wp2_with fail
          try rw [Exit.noGoto_ret]
          go_roundg (s.size - (k + 1))
          case measure => omega
          case rel => exact ⟨k + 1, bg, tt, _, true, sk, by omega, rfl, rfl, rfl, htt, HI2, HN, HJ2, HP2⟩
    · obtain rfl : k = s.size := by omega
      have hnx := fun ty => Lib.run_next_end_at (P := Tryz.prog) wr gi s s.size ty HI.out (by omega)
      have HN := Lib.hid (HW.out.walk.trans ((congrArg (fun x => Fld.walkL f gO tt x sk) (show l.drop s.size = [] by rw [← HS.out, List.drop_length])).trans walk_end))
      go_wp2_with fail
      go_ret
      exact ⟨by rw [HN.out]; rfl, by rw [HN.out]; exact HJ.out, HP.out.kept⟩
end
section
set_option linter.unusedSimpArgs false
set_option linter.unusedVariables false
open Go.RowKit Sha
open Fld (Itm)
theorem WSt.keepA {w0 w : World} {ga : Nat} {st : List Int × List Itm} {p : Option Addr} {c : Nat} {v : Value} (h : WSt w0 ga st p c v w) (o : Obj) : WSt w0 ga st p c v (w.alloc o) :=
  ⟨h.mem.carry (cells_alloc w o), h.items, h.le, h.max, h.nil, h.below.alloc h.mem.size o, h.small⟩
theorem WSt.keepI {w0 w : World} {ga : Nat} {st : List Int × List Itm} {p : Option Addr} {c : Nat} {v : Value} (h : WSt w0 ga st p c v w) {gi : Nat} {s : ByteArray} {k : Nat} (hg : w0.heap.size ≤ gi) (hi : w.heap[gi]? = some (.stringIter s k)) (k' : Nat) : WSt w0 ga st p c v (w.iterAt gi s k') :=
  ⟨h.mem.carry (cells_iterAt hi k'), h.items, h.le, h.max, h.nil, Lib.below_iterAt h.below hg s k', h.small⟩
theorem putS_lim (c : Int) (st : List Int × List Itm) (h : ∀ x ∈ st.2, x.ok) : (Fld.putS c st).2.1 ≤ 9223372036854775807 ∧ -9223372036854775808 ≤ (Fld.putS c st).2.1 := by
  obtain ⟨out, l⟩ := st
  cases l with
  | nil => simp [Fld.putS]
  | cons x l =>
    have hx := h x (List.mem_cons_self ..)
    have := hx.N0
    have := hx.N1
    unfold Fld.putS
    simp only
    repeat' split
    all_goals simp only []
    all_goals omega
theorem doer_w (w0 : World) (ga : Nat) : Doer Tryz.prog 83 ga w0.heap.size Fld.putS (WAt w0 ga) where
  step c st w hc hR := (put_any w0 ga c hc st w hR).mono fun e w' ⟨he, hr, ho⟩ => ⟨he, hr, iters_of ho (by obtain ⟨p, c, v, h⟩ := hR; exact ⟨_, _, h.mem.blk⟩)⟩
  keepA st w o h := by obtain ⟨p, c, v, h⟩ := h; exact ⟨p, c, v, h.keepA o⟩
  keepI st w gi s p p' h hg hi := by obtain ⟨q, c, v, h⟩ := h; exact ⟨q, c, v, h.keepI hg hi p'⟩
  base st w h := by obtain ⟨p, c, v, h⟩ := h; exact h.mem.size
  lim c st w h := by obtain ⟨p, cc, v, h⟩ := h; exact putS_lim c st h.items.ok
/-- What Put leaves: bytes of its own, and an error. -/
def PutDone (w0 : World) (r : List Int × Int) (e : Ending) (w : World) : Prop :=
  ∃ v, e = .returned (.tuple #[v, .int .i64 r.2]) ∧ Own8 w w0.heap.size 5 v r.1.length (r.1.map v8) ∧ Below w0.heap.size w0 w
theorem put_bad {s : List Int} {l : List Itm} (h : Fld.chk s = false) : Fld.put s l = ([], 2) := by simp [Fld.put, h]
theorem put_walked {s : List Int} {l : List Itm} (h : Fld.chk s = true) {st : List Int × List Itm} {e : Int} (hw : Fld.walkL Fld.putS none 0 s ([], l) = (st, e)) :
    Fld.put s l = if e = 0 then (if st.2 = [] then (st.1, 0) else ([], 2)) else ([], e) := by simp [Fld.put, h, hw]
set_option maxRecDepth 100000 in
set_option maxHeartbeats 2000000 in
theorem putF_bad (s : ByteArray) (hs : s.size ≤ maxLen) (p : Option Addr) (n c : Nat) (w : World) (l : List Itm) (hc : Fld.chk (nums s) = false) :
    Calls Tryz.prog 51 #[.string s, .slice p n c] w (PutDone w (Fld.put (nums s) l)) := by
  have HP := Lib.hid (put_bad (l := l) hc)
  have HE := Lib.hid (Fld.chkE_no hc)
  clear hc
  go_enter Tryz.func51, Tryz.ntmps51
  go_wp2_with (go_at_call 67; refine (check_any s w hs).mono ?_; rw [HE.out]; rintro e w1 ⟨rfl, hb1⟩)
  go_ret2
  exact ⟨.slice none 0 0, by rw [HP.out]; rfl, by rw [HP.out]; exact Own8.nil _ _ _, hb1⟩
set_option maxRecDepth 100000 in
set_option maxHeartbeats 2000000 in
theorem putF_any (s : ByteArray) (hs : s.size ≤ maxLen) (l : List Itm) (p : Option Addr) (n c : Nat) (w : World) (hn : n = l.length) (hi : ItemsAt w p l) (hle : n ≤ c) (hm : c ≤ 9223372036854775807) (hp : p = none → c = 0) (hsm : n ≤ 100000) :
    Calls Tryz.prog 51 #[.string s, .slice p n c] w (PutDone w (Fld.put (nums s) l)) := by
  subst hn
  by_cases hc : Fld.chk (nums s) = true
  · have HE := Lib.hid (Fld.chkE_ok hc)
    have HC := Lib.hid (chk_len hc)
    have hsl : s.size ≤ 40 := by have := HC.out.1; rwa [nums_length] at this
    obtain ⟨⟨st, er⟩, hr⟩ : ∃ r, r = Fld.walkL Fld.putS none 0 (nums s) ([], l) := ⟨_, rfl⟩
    have HP := Lib.hid (put_walked hc hr.symm)
    have HR := Lib.hid hr
    have HI := Lib.hid hi
    have HPN := Lib.hid hp
    clear hc hr hi hp
    go_enter Tryz.func51, Tryz.ntmps51
    go_wp2_with (first
      | (go_at_call 67; refine (check_any s w hs).mono ?_; rw [HE.out]; rintro e w1 ⟨rfl, hb1⟩))
    have hst : WAt w w1.heap.size ([], l) (w1.alloc (Obj.cells #[Value.slice p l.length c, Value.slice none 0 0] 124)) :=
      ⟨p, c, .slice none 0 0, ⟨by simpa using Blk.new w1 #[Value.slice p l.length c, Value.slice none 0 0] 124, Own8.nil _ _ _, hb1.size, by simp; have := hb1.size; omega⟩, HI.out, hle, hm, HPN.out, hb1.alloc hb1.size _, by simp; omega⟩
    refine (walk_w (doer_w w w1.heap.size) s hsl HC.out.2 ([], l) _ hst).mono ?_
    rw [← HR.out]
    rintro e w2 ⟨rfl, hs2, _⟩
    clear hst hb1
    generalize w1.heap.size = ga at *
    obtain ⟨out, l2⟩ := st
    obtain ⟨p2, c2, v2, hs2⟩ := hs2
    have a0 : w2.cell? ⟨ga, 0, none⟩ = some (.slice p2 l2.length c2) := hs2.mem.blk.cell 0
    have a1 : w2.cell? ⟨ga, 1, none⟩ = some v2 := hs2.mem.blk.cell 1
    have HS2 := Lib.hid hs2
    clear hs2
    by_cases he : er = 0
    · subst he
      by_cases h2 : l2 = []
      · subst h2
        have HP2 := Lib.hid (HP.out.trans (by simp : _ = (out, (0 : Int))))
        go_wp2_with fail
        go_ret2
        exact ⟨v2, by rw [HP2.out]; rfl, by rw [HP2.out]; exact HS2.out.mem.own, HS2.out.below⟩
      · have h3 : 0 < l2.length := List.length_pos_iff.2 h2
        have HP2 := Lib.hid (HP.out.trans (by simp [h2] : _ = (([] : List Int), (2 : Int))))
        clear h2
        go_wp2_with fail
        go_ret2
        exact ⟨.slice none 0 0, by rw [HP2.out]; rfl, by rw [HP2.out]; exact Own8.nil _ _ _, HS2.out.below⟩
    · have he' : (er == 0) = false := by simpa using he
      have HP2 := Lib.hid (HP.out.trans (by simp [he] : _ = (([] : List Int), er)))
      clear he
      go_wp2_with fail
      go_ret2
      exact ⟨.slice none 0 0, by rw [HP2.out]; rfl, by rw [HP2.out]; exact Own8.nil _ _ _, HS2.out.below⟩
  · exact putF_bad s hs p _ c w l (by simpa using hc)
end
section
set_option linter.unusedSimpArgs false
set_option linter.unusedVariables false
open Go.RowKit Sha
open Fld (Itm)
@[irreducible] def mkOp (t : TypeId) (parts : Array (Nat × Value)) : Sem Next := do pure (.value (← Instr.build t parts))
theorem execOp_buildItem (ρ : Operand → Value) (dst : Option Tmp) (parts : Array (Nat × Operand)) (ty : TypeId) (pos : String) (after : Array Edge) (guard : Option (Nat × Bool)) :
    execOp ρ { dst := dst, op := .build 118 parts, type := ty, pos := pos, after := after, guard := guard } = mkOp 118 (parts.map fun (i, x) => (i, ρ x)) := by unfold mkOp; rfl
theorem run_mkOp {P : Program} {t : TypeId} {parts : Array (Nat × Value)} {cs : Array Value} (w : World) (h : P.built t parts.toList = some cs) : (mkOp t parts).run P w = .ok (.value (.agg cs)) w := by
  unfold mkOp; simp only [Sem.run_bind, run_build w t _ cs h, Result.andThen_ok, Sem.run_pure]
attribute [local go_sem ↓] execOp_buildItem
end
end Go.Proofs.YtbogjfmefkhglaaGreat
