/-
  The next item is written: the contract of put.
-/
import Derived.Test.YtgakmkglejddeaaFldA
import Derived.Test.YtgakmkglejddeaaFldB
import Derived.Test.YtgakmkglejddeaaFldD
import Derived.Deep.RegionLaw
import Derived.Deep.AppendLies
namespace Go.Proofs.Ytgakmkglejddeaa
set_option linter.unusedSimpArgs false
set_option linter.unusedVariables false
open Go.RowKit Sha
open Fld (Itm)
/-- A writer under way: what is written, what is left. -/
structure WSt (w0 : World) (ga : Nat) (st : List Int × List Itm) (p : Option Addr) (c : Nat) (v : Value) (w : World) : Prop where
  mem : WMem w0.heap.size ga (.slice p st.2.length c) v st.1 w
  items : ItemsAt w0 p st.2
  le : st.2.length ≤ c
  max : c ≤ 9223372036854775807
  nil : p = none → c = 0
  below : Below w0.heap.size w0 w
  small : st.1.length + 5000 * st.2.length ≤ 1000000000
def WAt (w0 : World) (ga : Nat) (st : List Int × List Itm) (w : World) : Prop := ∃ p c v, WSt w0 ga st p c v w
def PDone (w0 : World) (ga : Nat) (c : Int) (st : List Int × List Itm) (w : World) (e : Ending) (w' : World) : Prop :=
  e = .returned (.tuple #[.int .i64 (Fld.putS c st).2.1, .int .i64 (Fld.putS c st).2.2]) ∧ WAt w0 ga (Fld.putS c st).1 w' ∧ Lib.OthersKept 5 (some ga) w w'
theorem cells_of_below {w w' : World} (h : Below w.heap.size w w') : CellsKept w w' :=
  ⟨h.size, fun k c e fz hk => by
    have hlt : k < w.heap.size := (Array.getElem?_eq_some_iff.1 hk).1
    rw [h.block k hlt]; exact hk⟩
theorem others_of_below {w w' : World} (e : TypeId) (b : Option Nat) (h : Below w.heap.size w w') : Lib.OthersKept e b w w' := fun k o hk _ _ => by
  have hlt : k < w.heap.size := (Array.getElem?_eq_some_iff.1 hk).1
  rw [h.block k hlt]; exact hk
theorem WSt.below_on {w0 w w' : World} {ga : Nat} {st : List Int × List Itm} {p : Option Addr} {c : Nat} {v : Value} (h : WSt w0 ga st p c v w) (hb : Below w.heap.size w w') : WSt w0 ga st p c v w' :=
  ⟨h.mem.carry (cells_of_below hb), h.items, h.le, h.max, h.nil, h.below.trans (hb.mono h.mem.size), h.small⟩
set_option maxRecDepth 100000 in
set_option maxHeartbeats 2000000 in
theorem put_nil (w0 : World) (ga : Nat) (c : Int) (out : List Int) (w : World) (h : WAt w0 ga (out, []) w) :
    Calls Try.prog 26 #[.pointer (some ⟨ga, 0, none⟩), .int .i32 c] w (PDone w0 ga c (out, []) w) := by
  obtain ⟨p, cap, v, hs⟩ := h
  have c0 : w.cell? ⟨ga, 0, none⟩ = some (.slice p 0 cap) := hs.mem.blk.cell 0
  have HS := Lib.hid hs
  clear hs
  go_enter Try.func26, Try.ntmps26
  go_wp2_with fail
  go_ret2
  exact ⟨rfl, ⟨p, cap, v, HS.out⟩, Lib.OthersKept.refl _ _ _⟩
theorem putS_no {c : Int} {out : List Int} {x : Itm} {l : List Itm} (h : Fld.okFor c x = false) : Fld.putS c (out, x :: l) = ((out, x :: l), 0, 2) := by simp [Fld.putS, h]
theorem putS_bd {c : Int} {out : List Int} {x : Itm} {l : List Itm} (h : Fld.okFor c x = true) (hb : Fld.bound c x ≠ 0) : Fld.putS c (out, x :: l) = ((out, x :: l), 0, Fld.bound c x) := by simp [Fld.putS, h, hb]
theorem putS_yes {c : Int} {out : List Int} {x : Itm} {l : List Itm} (h : Fld.okFor c x = true) (hb : Fld.bound c x = 0) : Fld.putS c (out, x :: l) = ((out ++ Fld.enc c x, l), x.N, 0) := by simp [Fld.putS, h, hb]
theorem named_is (b : Bool) (c : Int) (x : Itm) (q : Option Addr) (cap : Nat) (w : World) (hx : x.ok) (h : Fld.okFor c x = b) :
    Calls Try.prog 35 #[.int .i32 c, .agg (icells x q cap).toArray] w fun e w' => e = .returned (.bool b) ∧ Below w.heap.size w w' := by
  subst h; exact named_any c x q cap w hx
theorem bounded_is (b : Int) (c : Int) (x : Itm) (q : Option Addr) (cap : Nat) (w : World) (hx : x.ok) (hc : Fld.isC c) (h : Fld.bound c x = b) :
    Calls Try.prog 36 #[.int .i32 c, .agg (icells x q cap).toArray] w fun e w' => e = .returned (.int .i64 b) ∧ Below w.heap.size w w' := by
  subst h; exact bounded_any c x q cap w hx hc
set_option maxRecDepth 100000 in
set_option maxHeartbeats 2000000 in
theorem put_no (w0 : World) (ga : Nat) (c : Int) (out : List Int) (x : Itm) (l : List Itm) (w : World) (h : WAt w0 ga (out, x :: l) w) (ho : Fld.okFor c x = false) :
    Calls Try.prog 26 #[.pointer (some ⟨ga, 0, none⟩), .int .i32 c] w (PDone w0 ga c (out, x :: l) w) := by
  obtain ⟨p, cap, v, hs⟩ := h
  obtain ⟨n, hn⟩ : ∃ n, n = l.length := ⟨_, rfl⟩
  have c0 : w.cell? ⟨ga, 0, none⟩ = some (.slice p (n + 1) cap) := by rw [hn]; exact hs.mem.blk.cell 0
  obtain ⟨b, off, q, qc, rfl, hr, hg⟩ := (hs.items.below hs.below).get 0 (by simp)
  have hle : n + 1 ≤ cap := by rw [hn]; exact hs.le
  have hmx := hs.max
  simp only [List.getElem_cons_zero, Nat.zero_mul, Nat.add_zero] at hr hg
  have hsz : (Try.prog.info? 40).map (fun i => i.size) = some (icells x q qc).length := by rw [item_size, icells_length hg.ok]
  have HS := Lib.hid hs
  have HR := Lib.hid hr
  have HG := Lib.hid hg
  have HO := Lib.hid ho
  have HN := Lib.hid hn
  have HP := Lib.hid (putS_no (out := out) (l := l) ho)
  clear hs hr hg ho hn
  go_enter Try.func26, Try.ntmps26
  go_wp2_with (first
    | (refine BigFrame.wpList_want rfl (fun K hK => wp_load_mid 40 (.tmp 20) rfl b off rfl _ _ HR.out Try.underlying40 rfl hsz (hK _ _ ?_)))
    | (go_at_call 35; refine (named_is false c x q qc _ HG.out.ok HO.out).mono ?_; rintro e w1 ⟨rfl, hb1⟩))
  go_ret2
  exact ⟨by rw [HP.out]; rfl, by rw [HP.out]; exact ⟨_, _, _, HS.out.below_on hb1⟩, others_of_below _ _ hb1⟩

theorem range_below {w w' : World} {b o : Nat} {cs : List Value} (h : w.rangeAt b o cs) (hb : Below w.heap.size w w') : w'.rangeAt b o cs := fun j v hv => by
  have := h j v hv
  rw [hb.cell (World.block_lt_of_cell? w _ this)]; exact this
theorem icells_all (x : Itm) (q : Option Addr) (c : Nat) : (icells x q c).toArray.all (·.oneCell') = true := all_oneCell_toArray (icells_one x q c)
theorem item0_ok : Itm.ok ⟨0, [], Fld.zero32⟩ := ⟨by simp, by simp, by simp, by unfold Fld.zero32; intro n hn; have := List.eq_of_mem_replicate hn; omega, Fld.zero32_length⟩
set_option maxRecDepth 100000 in
set_option maxHeartbeats 2000000 in
theorem put_bd (w0 : World) (ga : Nat) (c e0 : Int) (hc : Fld.isC c) (out : List Int) (x : Itm) (l : List Itm) (w : World) (h : WAt w0 ga (out, x :: l) w) (ho : Fld.okFor c x = true) (hb : Fld.bound c x = e0) (he : (e0 == 0) = false) :
    Calls Try.prog 26 #[.pointer (some ⟨ga, 0, none⟩), .int .i32 c] w (PDone w0 ga c (out, x :: l) w) := by
  obtain ⟨p, cap, v, hs⟩ := h
  obtain ⟨n, hn⟩ : ∃ n, n = l.length := ⟨_, rfl⟩
  have c0 : w.cell? ⟨ga, 0, none⟩ = some (.slice p (n + 1) cap) := by rw [hn]; exact hs.mem.blk.cell 0
  obtain ⟨b, off, q, qc, rfl, hr, hg⟩ := (hs.items.below hs.below).get 0 (by simp)
  have hle : n + 1 ≤ cap := by rw [hn]; exact hs.le
  have hmx := hs.max
  simp only [List.getElem_cons_zero, Nat.zero_mul, Nat.add_zero] at hr hg
  have hsz : (Try.prog.info? 40).map (fun i => i.size) = some (icells x q qc).length := by rw [item_size, icells_length hg.ok]
  have hsz2 : (Try.prog.info? 40).map (fun i => i.size) = some (icells x q qc).toArray.size := by rw [hsz]; simp
  have hsz3 : (icells ⟨0, [], Fld.zero32⟩ none 0).toArray.size = (icells x q qc).toArray.size := by rw [List.size_toArray, List.size_toArray, icells_length hg.ok, icells_length item0_ok]
  have HA := Lib.hid (show ga < w.heap.size from hs.mem.blk.lt)
  have HS := Lib.hid hs
  have HR := Lib.hid hr
  have HG := Lib.hid hg
  have HO := Lib.hid ho
  have HN := Lib.hid hn
  have HP := Lib.hid (putS_bd (out := out) (l := l) ho (by rw [hb]; simpa using he))
  have HBD := Lib.hid hb
  clear hs hr hg ho hn hb
  go_enter Try.func26, Try.ntmps26
  go_wp2_with (first
    | (refine BigFrame.wpList_want rfl (fun K hK => wp_load_mid 40 (.tmp 20) rfl b off rfl _ _ HR.out Try.underlying40 rfl hsz (hK _ _ ?_)))
    | (go_at_call 35; refine (named_is true c x q qc _ HG.out.ok HO.out).mono ?_; rintro e w1 ⟨rfl, hb1⟩; have c0' : w1.cell? ⟨ga, 0, none⟩ = some (.slice (some ⟨b, off, none⟩) (n + 1) cap) := (hb1.cell HA.out).trans c0; have HR1 := Lib.hid (range_below HR.out hb1); have HB1 := Lib.hid hb1; clear hb1)
    | (refine wpList_load_mid rfl 40 (.tmp 29) rfl b off rfl _ _ HR1.out Try.underlying40 rfl hsz ?_)
    | (refine wpList_alloc_arr rfl 40 rfl _ item_info ?_)
    | (refine wpList_store_row rfl 40 _ _ rfl _ _ rfl rfl 40 _ (heap_alloc_new _ _) hsz2 hsz3 (icells_all _ _ _) ?_; rw [World.setRow_alloc_new]; have K3 := Blk.new w1 (icells x q qc).toArray 40; have B3 : Below w.heap.size w (w1.alloc (Obj.cells (icells x q qc).toArray 40)) := HB1.out.alloc HB1.out.size _; have hgx : w.heap.size ≤ w1.heap.size := HB1.out.size; generalize w1.alloc (Obj.cells (icells x q qc).toArray 40) = w3 at *; generalize w1.heap.size = gx at *; rw [List.toList_toArray] at K3; have HK3 := Lib.hid K3; have HB3 := Lib.hid B3; have d0 : w3.cell? ⟨ga, 0, none⟩ = some (.slice (some ⟨b, off, none⟩) (n + 1) cap) := (B3.cell HA.out).trans c0; clear K3 B3)
    | (refine wpList_load_mid rfl 40 (.tmp 6) rfl gx 0 rfl _ _ HK3.out.range Try.underlying40 rfl hsz ?_)
    | (go_at_call 36; refine (bounded_is e0 c x q qc _ HG.out.ok hc HBD.out).mono ?_; rintro e w4 ⟨rfl, hb4⟩))
  go_ret2
  have hb5 := HB3.out.trans (hb4.mono HB3.out.size)
  exact ⟨by rw [HP.out, HBD.out]; rfl, by rw [HP.out]; exact ⟨_, _, _, HS.out.below_on hb5⟩, others_of_below _ _ hb5⟩
end Go.Proofs.Ytgakmkglejddeaa
