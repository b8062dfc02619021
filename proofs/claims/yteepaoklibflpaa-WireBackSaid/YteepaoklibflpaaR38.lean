/-
  What an item may be: the contracts of named and bounded.
  Which errors an item beyond its letter's bounds has: the contract of bounded.
  The next item is written: the contract of put.
-/
import Derived.Test.YteepaoklibflpaaR9
import Derived.WalkSpells
import Derived.IntWalk
import Derived.WalkLawsBesides
import Derived.Test.YteepaoklibflpaaR1
import Derived.Test.YteepaoklibflpaaR26
import Derived.Deep.RegionLaw
import Derived.Deep.AppendLies
namespace Go.Proofs.Yteepaoklibflpaa
section
set_option linter.unusedSimpArgs false
set_option linter.unusedVariables false
open Go.RowKit Sha
open Fld (Itm)
theorem ret_bool {a b : Bool} (h : a = b) : Ending.returned (.bool a) = .returned (.bool b) := by rw [h]
/-- The last test of named, whatever the item has become. -/
theorem okFor_98 (x : Itm) : Fld.okFor 98 x = (decide (x.N = 0) && decide (x.D = Fld.zero32)) := by simp [Fld.okFor]
theorem okFor_100 (x : Itm) : Fld.okFor 100 x = (decide (x.N = 0) && decide (x.B = [])) := by simp [Fld.okFor]
theorem okFor_n' (c : Int) (x : Itm) (h1 : c ≠ 98) (h2 : c ≠ 100) : Fld.okFor c x = (decide (x.B = []) && decide (x.D = Fld.zero32)) := by simp [Fld.okFor, h1, h2]
set_option maxRecDepth 100000 in
set_option maxHeartbeats 2000000 in
theorem named_98 (x : Itm) (q : Option Addr) (cap : Nat) (w : World) (hx : x.ok) :
    Calls Try.prog 76 #[.int .i32 98, .agg (icells x q cap).toArray] w fun e w' => e = .returned (.bool (Fld.okFor 98 x)) ∧ Below w.heap.size w w' := by
  have hszd : (Try.prog.info? 27).map (fun i => i.size) = some (x.D.map v8).length := by rw [id_size]; simp [hx.len]
  have hszz : (Try.prog.info? 27).map (fun i => i.size) = some (Fld.zero32.map v8).length := by rw [id_size]; simp [Fld.zero32_length]
  have hszz' : (Try.prog.info? 27).map (fun i => i.size) = some (Fld.zero32.map v8).toArray.size := by rw [id_size]; simp [Fld.zero32_length]
  have Hx := Lib.hid hx.len
  have Hl := Lib.hid (icells_length hx q cap)
  have Hz := Lib.hid Fld.zero32_length
  clear hx
  have HR := Lib.hid (okFor_98 x)
  by_cases hN' : x.N = 0
  · have hN : (x.N == 0) = true := by simpa using hN'
    have HN := Lib.hid hN'
    clear hN'
    go_enter Try.func76, Try.ntmps76
    go_wp2_with (first
            | (refine wpList_box_new rfl 98 _ rfl _ rfl ?_; intro w1 g K1 B1 G1; have c0 : w1.cell? ⟨g, 0, none⟩ = some (.int .i64 x.N) := (K1.cell 0).trans (icells_0 _ _ _); have c1 : w1.cell? ⟨g, 1, none⟩ = some (.slice q x.B.length cap) := (K1.cell 1).trans (icells_1 _ _ _); have f0 := K1.free 0; have f1 := K1.free 1; have K2 := Lib.hid (show Blk (w1.setCell ⟨g, 1, none⟩ (.slice none 0 0)) g (icells ⟨x.N, [], x.D⟩ none 0) 98 by rw [← icells_set1 x q cap [] none 0]; exact K1.set 1 _); have B1 := Lib.hid B1; clear K1)
            | (refine BigFrame.wpList_want rfl (fun K hK => wp_load_mid 27 (.tmp 24) rfl _ 2 rfl _ _ K2.out.rangeId Try.underlying27 rfl hszd (hK _ _ ?_)))
            | (refine BigFrame.wpList_want rfl (fun K hK => wp_build' 27 #[] rfl _ id_zero (hK _ _ ?_)))
            | (refine BigFrame.wpList_want rfl (fun K hK => wp_eql_arr 27 (.tmp 25) (.tmp 26) _ rfl 5 32 .u8 Try.underlying27 Try.underlying5 kslice1 x.D Fld.zero32 rfl rfl Hx.out Hz.out (hK _ _ ?_))))
    go_ret
    exact ⟨ret_bool (by rw [HR.out, HN.out]; simp), B1.out.setCell G1 _⟩
  · have hN : (x.N == 0) = false := by simpa using hN'
    have HN := Lib.hid hN'
    clear hN'
    go_enter Try.func76, Try.ntmps76
    go_wp2_with (first
            | (refine wpList_box_new rfl 98 _ rfl _ rfl ?_; intro w1 g K1 B1 G1; have c0 : w1.cell? ⟨g, 0, none⟩ = some (.int .i64 x.N) := (K1.cell 0).trans (icells_0 _ _ _); have c1 : w1.cell? ⟨g, 1, none⟩ = some (.slice q x.B.length cap) := (K1.cell 1).trans (icells_1 _ _ _); have f0 := K1.free 0; have f1 := K1.free 1; have K2 := Lib.hid (show Blk (w1.setCell ⟨g, 1, none⟩ (.slice none 0 0)) g (icells ⟨x.N, [], x.D⟩ none 0) 98 by rw [← icells_set1 x q cap [] none 0]; exact K1.set 1 _); have B1 := Lib.hid B1; clear K1)
            | (refine BigFrame.wpList_want rfl (fun K hK => wp_load_mid 27 (.tmp 24) rfl _ 2 rfl _ _ K2.out.rangeId Try.underlying27 rfl hszd (hK _ _ ?_)))
            | (refine BigFrame.wpList_want rfl (fun K hK => wp_build' 27 #[] rfl _ id_zero (hK _ _ ?_)))
            | (refine BigFrame.wpList_want rfl (fun K hK => wp_eql_arr 27 (.tmp 25) (.tmp 26) _ rfl 5 32 .u8 Try.underlying27 Try.underlying5 kslice1 x.D Fld.zero32 rfl rfl Hx.out Hz.out (hK _ _ ?_))))
    go_ret
    exact ⟨ret_bool (by rw [HR.out]; simp [HN.out]), B1.out.setCell G1 _⟩
set_option maxRecDepth 100000 in
set_option maxHeartbeats 2000000 in
theorem named_100 (x : Itm) (q : Option Addr) (cap : Nat) (w : World) (hx : x.ok) :
    Calls Try.prog 76 #[.int .i32 100, .agg (icells x q cap).toArray] w fun e w' => e = .returned (.bool (Fld.okFor 100 x)) ∧ Below w.heap.size w w' := by
  have hszd : (Try.prog.info? 27).map (fun i => i.size) = some (x.D.map v8).length := by rw [id_size]; simp [hx.len]
  have hszz : (Try.prog.info? 27).map (fun i => i.size) = some (Fld.zero32.map v8).length := by rw [id_size]; simp [Fld.zero32_length]
  have hszz' : (Try.prog.info? 27).map (fun i => i.size) = some (Fld.zero32.map v8).toArray.size := by rw [id_size]; simp [Fld.zero32_length]
  have Hx := Lib.hid hx.len
  have Hl := Lib.hid (icells_length hx q cap)
  have Hz := Lib.hid Fld.zero32_length
  clear hx
  have HR := Lib.hid (okFor_100 x)
  by_cases hN' : x.N = 0
  · have hN : (x.N == 0) = true := by simpa using hN'
    have HN := Lib.hid hN'
    clear hN'
    by_cases hB' : x.B = []
    · have hB : ((x.B.length : Int) == 0) = true := by simp [hB']
      have HB := Lib.hid hB'
      clear hB'
      go_enter Try.func76, Try.ntmps76
      go_wp2_with (first
              | (refine wpList_box_new rfl 98 _ rfl _ rfl ?_; intro w1 g K1 B1 G1; have c0 : w1.cell? ⟨g, 0, none⟩ = some (.int .i64 x.N) := (K1.cell 0).trans (icells_0 _ _ _); have c1 : w1.cell? ⟨g, 1, none⟩ = some (.slice q x.B.length cap) := (K1.cell 1).trans (icells_1 _ _ _); have f0 := K1.free 0; have f1 := K1.free 1; have TH := Lib.hid (K1.there 2 32 (by rw [Hl.out]; decide)); have KK := Lib.hid (icells_set2 q cap 98 K1 Fld.zero32 (by rw [Hx.out, Hz.out])); have B1 := Lib.hid B1; clear K1)
              | (refine wpList_store_mid rfl 27 _ _ rfl g 2 (Fld.zero32.map v8).toArray rfl rfl (by simpa [Hz.out] using TH.out) hszz' (v8_one _) ?_; rw [List.toList_toArray]; have k2 := KK.out; have B2 := Lib.hid (setCells_below G1 (Fld.zero32.map v8) 2 _ B1.out); generalize w1.setCells g 2 (Fld.zero32.map v8) = w2 at *; have d0 : w2.cell? ⟨g, 0, none⟩ = some (.int .i64 x.N) := (k2.cell 0).trans (icells_0 _ _ _); have d1 : w2.cell? ⟨g, 1, none⟩ = some (.slice q x.B.length cap) := (k2.cell 1).trans (icells_1 _ _ _); have K2 := Lib.hid k2; clear k2)
              | (refine BigFrame.wpList_want rfl (fun K hK => wp_load_mid 27 (.tmp 24) rfl _ 2 rfl _ _ K2.out.rangeId Try.underlying27 rfl hszz (hK _ _ ?_)))
              | (refine BigFrame.wpList_want rfl (fun K hK => wp_build' 27 #[] rfl _ id_zero (hK _ _ ?_)))
              | (refine wpList_build' rfl 27 #[] rfl _ id_zero ?_)
              | (refine BigFrame.wpList_want rfl (fun K hK => wp_eql_arr 27 (.tmp 25) (.tmp 26) _ rfl 5 32 .u8 Try.underlying27 Try.underlying5 kslice1 Fld.zero32 Fld.zero32 rfl rfl Hz.out Hz.out (hK _ _ ?_))))
      go_ret
      exact ⟨ret_bool (by rw [HR.out, HN.out, HB.out]; simp), B2.out⟩
    · have hB : ((x.B.length : Int) == 0) = false := by simp; exact hB'
      have HB := Lib.hid hB'
      clear hB'
      go_enter Try.func76, Try.ntmps76
      go_wp2_with (first
              | (refine wpList_box_new rfl 98 _ rfl _ rfl ?_; intro w1 g K1 B1 G1; have c0 : w1.cell? ⟨g, 0, none⟩ = some (.int .i64 x.N) := (K1.cell 0).trans (icells_0 _ _ _); have c1 : w1.cell? ⟨g, 1, none⟩ = some (.slice q x.B.length cap) := (K1.cell 1).trans (icells_1 _ _ _); have f0 := K1.free 0; have f1 := K1.free 1; have TH := Lib.hid (K1.there 2 32 (by rw [Hl.out]; decide)); have KK := Lib.hid (icells_set2 q cap 98 K1 Fld.zero32 (by rw [Hx.out, Hz.out])); have B1 := Lib.hid B1; clear K1)
              | (refine wpList_store_mid rfl 27 _ _ rfl g 2 (Fld.zero32.map v8).toArray rfl rfl (by simpa [Hz.out] using TH.out) hszz' (v8_one _) ?_; rw [List.toList_toArray]; have k2 := KK.out; have B2 := Lib.hid (setCells_below G1 (Fld.zero32.map v8) 2 _ B1.out); generalize w1.setCells g 2 (Fld.zero32.map v8) = w2 at *; have d0 : w2.cell? ⟨g, 0, none⟩ = some (.int .i64 x.N) := (k2.cell 0).trans (icells_0 _ _ _); have d1 : w2.cell? ⟨g, 1, none⟩ = some (.slice q x.B.length cap) := (k2.cell 1).trans (icells_1 _ _ _); have K2 := Lib.hid k2; clear k2)
              | (refine BigFrame.wpList_want rfl (fun K hK => wp_load_mid 27 (.tmp 24) rfl _ 2 rfl _ _ K2.out.rangeId Try.underlying27 rfl hszz (hK _ _ ?_)))
              | (refine BigFrame.wpList_want rfl (fun K hK => wp_build' 27 #[] rfl _ id_zero (hK _ _ ?_)))
              | (refine wpList_build' rfl 27 #[] rfl _ id_zero ?_)
              | (refine BigFrame.wpList_want rfl (fun K hK => wp_eql_arr 27 (.tmp 25) (.tmp 26) _ rfl 5 32 .u8 Try.underlying27 Try.underlying5 kslice1 Fld.zero32 Fld.zero32 rfl rfl Hz.out Hz.out (hK _ _ ?_))))
      go_ret
      exact ⟨ret_bool (by rw [HR.out]; simp [HB.out]), B2.out⟩
  · have hN : (x.N == 0) = false := by simpa using hN'
    have HN := Lib.hid hN'
    clear hN'
    go_enter Try.func76, Try.ntmps76
    go_wp2_with (first
            | (refine wpList_box_new rfl 98 _ rfl _ rfl ?_; intro w1 g K1 B1 G1; have c0 : w1.cell? ⟨g, 0, none⟩ = some (.int .i64 x.N) := (K1.cell 0).trans (icells_0 _ _ _); have c1 : w1.cell? ⟨g, 1, none⟩ = some (.slice q x.B.length cap) := (K1.cell 1).trans (icells_1 _ _ _); have f0 := K1.free 0; have f1 := K1.free 1; have TH := Lib.hid (K1.there 2 32 (by rw [Hl.out]; decide)); have KK := Lib.hid (icells_set2 q cap 98 K1 Fld.zero32 (by rw [Hx.out, Hz.out])); have B1 := Lib.hid B1; clear K1)
            | (refine wpList_store_mid rfl 27 _ _ rfl g 2 (Fld.zero32.map v8).toArray rfl rfl (by simpa [Hz.out] using TH.out) hszz' (v8_one _) ?_; rw [List.toList_toArray]; have k2 := KK.out; have B2 := Lib.hid (setCells_below G1 (Fld.zero32.map v8) 2 _ B1.out); generalize w1.setCells g 2 (Fld.zero32.map v8) = w2 at *; have d0 : w2.cell? ⟨g, 0, none⟩ = some (.int .i64 x.N) := (k2.cell 0).trans (icells_0 _ _ _); have d1 : w2.cell? ⟨g, 1, none⟩ = some (.slice q x.B.length cap) := (k2.cell 1).trans (icells_1 _ _ _); have K2 := Lib.hid k2; clear k2)
            | (refine BigFrame.wpList_want rfl (fun K hK => wp_load_mid 27 (.tmp 24) rfl _ 2 rfl _ _ K2.out.rangeId Try.underlying27 rfl hszz (hK _ _ ?_)))
            | (refine BigFrame.wpList_want rfl (fun K hK => wp_build' 27 #[] rfl _ id_zero (hK _ _ ?_)))
            | (refine wpList_build' rfl 27 #[] rfl _ id_zero ?_)
            | (refine BigFrame.wpList_want rfl (fun K hK => wp_eql_arr 27 (.tmp 25) (.tmp 26) _ rfl 5 32 .u8 Try.underlying27 Try.underlying5 kslice1 Fld.zero32 Fld.zero32 rfl rfl Hz.out Hz.out (hK _ _ ?_))))
    go_ret
    exact ⟨ret_bool (by rw [HR.out]; simp [HN.out]), B2.out⟩
set_option maxRecDepth 100000 in
set_option maxHeartbeats 2000000 in
theorem named_n (c : Int) (x : Itm) (q : Option Addr) (cap : Nat) (w : World) (hx : x.ok) (h98 : c ≠ 98) (h100 : c ≠ 100) :
    Calls Try.prog 76 #[.int .i32 c, .agg (icells x q cap).toArray] w fun e w' => e = .returned (.bool (Fld.okFor c x)) ∧ Below w.heap.size w w' := by
  have hszd : (Try.prog.info? 27).map (fun i => i.size) = some (x.D.map v8).length := by rw [id_size]; simp [hx.len]
  have hszz : (Try.prog.info? 27).map (fun i => i.size) = some (Fld.zero32.map v8).length := by rw [id_size]; simp [Fld.zero32_length]
  have hszz' : (Try.prog.info? 27).map (fun i => i.size) = some (Fld.zero32.map v8).toArray.size := by rw [id_size]; simp [Fld.zero32_length]
  have Hx := Lib.hid hx.len
  have Hl := Lib.hid (icells_length hx q cap)
  have Hz := Lib.hid Fld.zero32_length
  clear hx
  have HR := Lib.hid (okFor_n' c x h98 h100)
  have t98 : (c == 98) = false := by simpa using h98
  have t100 : (c == 100) = false := by simpa using h100
  clear h98 h100
  by_cases hB' : x.B = []
  · have hB : ((x.B.length : Int) == 0) = true := by simp [hB']
    have HB := Lib.hid hB'
    clear hB'
    go_enter Try.func76, Try.ntmps76
    go_wp2_with (first
            | (refine wpList_box_new rfl 98 _ rfl _ rfl ?_; intro w1 g K1 B1 G1; have c0 : w1.cell? ⟨g, 0, none⟩ = some (.int .i64 x.N) := (K1.cell 0).trans (icells_0 _ _ _); have c1 : w1.cell? ⟨g, 1, none⟩ = some (.slice q x.B.length cap) := (K1.cell 1).trans (icells_1 _ _ _); have f0 := K1.free 0; have f1 := K1.free 1; have K2 := Lib.hid (show Blk (w1.setCell ⟨g, 0, none⟩ (.int .i64 0)) g (icells ⟨0, x.B, x.D⟩ q cap) 98 by rw [← icells_set0 x q cap 0]; exact K1.set 0 _); have B1 := Lib.hid B1; clear K1)
            | (refine BigFrame.wpList_want rfl (fun K hK => wp_load_mid 27 (.tmp 24) rfl _ 2 rfl _ _ K2.out.rangeId Try.underlying27 rfl hszd (hK _ _ ?_)))
            | (refine BigFrame.wpList_want rfl (fun K hK => wp_build' 27 #[] rfl _ id_zero (hK _ _ ?_)))
            | (refine BigFrame.wpList_want rfl (fun K hK => wp_eql_arr 27 (.tmp 25) (.tmp 26) _ rfl 5 32 .u8 Try.underlying27 Try.underlying5 kslice1 x.D Fld.zero32 rfl rfl Hx.out Hz.out (hK _ _ ?_))))
    go_ret
    exact ⟨ret_bool (by rw [HR.out, HB.out]; simp), B1.out.setCell G1 _⟩
  · have hB : ((x.B.length : Int) == 0) = false := by simp; exact hB'
    have HB := Lib.hid hB'
    clear hB'
    go_enter Try.func76, Try.ntmps76
    go_wp2_with (first
            | (refine wpList_box_new rfl 98 _ rfl _ rfl ?_; intro w1 g K1 B1 G1; have c0 : w1.cell? ⟨g, 0, none⟩ = some (.int .i64 x.N) := (K1.cell 0).trans (icells_0 _ _ _); have c1 : w1.cell? ⟨g, 1, none⟩ = some (.slice q x.B.length cap) := (K1.cell 1).trans (icells_1 _ _ _); have f0 := K1.free 0; have f1 := K1.free 1; have K2 := Lib.hid (show Blk (w1.setCell ⟨g, 0, none⟩ (.int .i64 0)) g (icells ⟨0, x.B, x.D⟩ q cap) 98 by rw [← icells_set0 x q cap 0]; exact K1.set 0 _); have B1 := Lib.hid B1; clear K1)
            | (refine BigFrame.wpList_want rfl (fun K hK => wp_load_mid 27 (.tmp 24) rfl _ 2 rfl _ _ K2.out.rangeId Try.underlying27 rfl hszd (hK _ _ ?_)))
            | (refine BigFrame.wpList_want rfl (fun K hK => wp_build' 27 #[] rfl _ id_zero (hK _ _ ?_)))
            | (refine BigFrame.wpList_want rfl (fun K hK => wp_eql_arr 27 (.tmp 25) (.tmp 26) _ rfl 5 32 .u8 Try.underlying27 Try.underlying5 kslice1 x.D Fld.zero32 rfl rfl Hx.out Hz.out (hK _ _ ?_))))
    go_ret
    exact ⟨ret_bool (by rw [HR.out]; simp [HB.out]), B1.out.setCell G1 _⟩
theorem named_any (c : Int) (x : Itm) (q : Option Addr) (cap : Nat) (w : World) (hx : x.ok) :
    Calls Try.prog 76 #[.int .i32 c, .agg (icells x q cap).toArray] w fun e w' => e = .returned (.bool (Fld.okFor c x)) ∧ Below w.heap.size w w' := by
  by_cases h98 : c = 98
  · subst h98; exact named_98 x q cap w hx
  · by_cases h100 : c = 100
    · subst h100; exact named_100 x q cap w hx
    · exact named_n c x q cap w hx h98 h100
end
section
set_option linter.unusedSimpArgs false
set_option linter.unusedVariables false
open Go.RowKit Sha
open Fld (Itm)
set_option maxRecDepth 100000 in
set_option maxHeartbeats 1000000 in
theorem bounded_any (c : Int) (x : Itm) (q : Option Addr) (cap : Nat) (w : World) (hx : x.ok) (hc : Fld.isC c) :
    Calls Try.prog 77 #[.int .i32 c, .agg (icells x q cap).toArray] w fun e w' => e = .returned (.int .i64 (Fld.bound c x)) ∧ Below w.heap.size w w' := by
  have n0 := hx.N0
  have n1 := hx.N1
  obtain ⟨m, hm⟩ : ∃ m, m = x.B.length := ⟨_, rfl⟩
  have HM := Lib.hid hm
  obtain ⟨n, hn⟩ : ∃ n, n = x.N := ⟨_, rfl⟩
  have HN := Lib.hid hn
  rw [← hn] at n0 n1
  have HB := Lib.hid (show Fld.bound c x = if n < 0 ∨ 4611686018427387903 < n then 5 else if 4000 < m ∨ (c = 40 ∧ 4000 < n) then 3 else 0 by rw [hn, hm]; rfl)
  clear hx hm hn
  rcases hc with rfl | rfl | rfl | rfl
  all_goals by_cases h1 : n < 0
  all_goals by_cases h3 : 4611686018427387903 < n
  all_goals by_cases h4 : 4000 < m
  all_goals by_cases h6 : 4000 < n
  all_goals try omega
  all_goals
    go_enter Try.func77, Try.ntmps77
    go_wp2_with (refine wpList_box_new rfl 98 _ rfl _ rfl ?_; intro w1 g K1 B1 G1; have c0 : w1.cell? ⟨g, 0, none⟩ = some (.int .i64 n) := (by rw [HN.out]; exact (K1.cell 0).trans (icells_0 _ _ _)); have c1 : w1.cell? ⟨g, 1, none⟩ = some (.slice q m cap) := (by rw [HM.out]; exact (K1.cell 1).trans (icells_1 _ _ _)); have B1 := Lib.hid B1; clear K1)
    go_ret
    exact ⟨ret_int (by rw [HB.out]; first | (simp [h1, h3, h4, h6]; done) | (simp [h1, h3, h4, h6]; rw [if_neg (by omega), if_neg (by omega)])), B1.out⟩
end
section
set_option linter.unusedSimpArgs false
set_option linter.unusedVariables false
open Go.RowKit Sha
open Fld (Itm)
/-- A writer under way: what is written, what is left. -/
structure WSt (w0 : World) (ga : Nat) (st : List Int × List Itm) (p : Option Addr) (c : Nat) (v : Value) (w : World) : Prop where
  mem : WMem w0.heap.size ga (.slice p st.2.length c) v st.1 w
  items : ItemsAt w0 p st.2
  le : st.2.length ≤ c
  max : c ≤ 9223372036854775807
  nil : p = none → c = 0
  below : Below w0.heap.size w0 w
  small : st.1.length + 5000 * st.2.length ≤ 1000000000
def WAt (w0 : World) (ga : Nat) (st : List Int × List Itm) (w : World) : Prop := ∃ p c v, WSt w0 ga st p c v w
def PDone (w0 : World) (ga : Nat) (c : Int) (st : List Int × List Itm) (w : World) (e : Ending) (w' : World) : Prop :=
  e = .returned (.tuple #[.int .i64 (Fld.putS c st).2.1, .int .i64 (Fld.putS c st).2.2]) ∧ WAt w0 ga (Fld.putS c st).1 w' ∧ Lib.OthersKept 5 (some ga) w w'
theorem cells_of_below {w w' : World} (h : Below w.heap.size w w') : CellsKept w w' :=
  ⟨h.size, fun k c e fz hk => by
    have hlt : k < w.heap.size := (Array.getElem?_eq_some_iff.1 hk).1
    rw [h.block k hlt]; exact hk⟩
theorem others_of_below {w w' : World} (e : TypeId) (b : Option Nat) (h : Below w.heap.size w w') : Lib.OthersKept e b w w' := fun k o hk _ _ => by
  have hlt : k < w.heap.size := (Array.getElem?_eq_some_iff.1 hk).1
  rw [h.block k hlt]; exact hk
theorem WSt.below_on {w0 w w' : World} {ga : Nat} {st : List Int × List Itm} {p : Option Addr} {c : Nat} {v : Value} (h : WSt w0 ga st p c v w) (hb : Below w.heap.size w w') : WSt w0 ga st p c v w' :=
  ⟨h.mem.carry (cells_of_below hb), h.items, h.le, h.max, h.nil, h.below.trans (hb.mono h.mem.size), h.small⟩
set_option maxRecDepth 100000 in
set_option maxHeartbeats 2000000 in
theorem put_nil (w0 : World) (ga : Nat) (c : Int) (out : List Int) (w : World) (h : WAt w0 ga (out, []) w) :
    Calls Try.prog 68 #[.pointer (some ⟨ga, 0, none⟩), .int .i32 c] w (PDone w0 ga c (out, []) w) := by
  obtain ⟨p, cap, v, hs⟩ := h
  have c0 : w.cell? ⟨ga, 0, none⟩ = some (.slice p 0 cap) := hs.mem.blk.cell 0
  have HS := Lib.hid hs
  clear hs
  go_enter Try.func68, Try.ntmps68
  go_wp2_with fail
  go_ret2
  exact ⟨rfl, ⟨p, cap, v, HS.out⟩, Lib.OthersKept.refl _ _ _⟩
theorem putS_no {c : Int} {out : List Int} {x : Itm} {l : List Itm} (h : Fld.okFor c x = false) : Fld.putS c (out, x :: l) = ((out, x :: l), 0, 2) := by simp [Fld.putS, h]
theorem putS_bd {c : Int} {out : List Int} {x : Itm} {l : List Itm} (h : Fld.okFor c x = true) (hb : Fld.bound c x ≠ 0) : Fld.putS c (out, x :: l) = ((out, x :: l), 0, Fld.bound c x) := by simp [Fld.putS, h, hb]
theorem putS_yes {c : Int} {out : List Int} {x : Itm} {l : List Itm} (h : Fld.okFor c x = true) (hb : Fld.bound c x = 0) : Fld.putS c (out, x :: l) = ((out ++ Fld.enc c x, l), x.N, 0) := by simp [Fld.putS, h, hb]
theorem named_is (b : Bool) (c : Int) (x : Itm) (q : Option Addr) (cap : Nat) (w : World) (hx : x.ok) (h : Fld.okFor c x = b) :
    Calls Try.prog 76 #[.int .i32 c, .agg (icells x q cap).toArray] w fun e w' => e = .returned (.bool b) ∧ Below w.heap.size w w' := by
  subst h; exact named_any c x q cap w hx
theorem bounded_is (b : Int) (c : Int) (x : Itm) (q : Option Addr) (cap : Nat) (w : World) (hx : x.ok) (hc : Fld.isC c) (h : Fld.bound c x = b) :
    Calls Try.prog 77 #[.int .i32 c, .agg (icells x q cap).toArray] w fun e w' => e = .returned (.int .i64 b) ∧ Below w.heap.size w w' := by
  subst h; exact bounded_any c x q cap w hx hc
set_option maxRecDepth 100000 in
set_option maxHeartbeats 2000000 in
theorem put_no (w0 : World) (ga : Nat) (c : Int) (out : List Int) (x : Itm) (l : List Itm) (w : World) (h : WAt w0 ga (out, x :: l) w) (ho : Fld.okFor c x = false) :
    Calls Try.prog 68 #[.pointer (some ⟨ga, 0, none⟩), .int .i32 c] w (PDone w0 ga c (out, x :: l) w) := by
  obtain ⟨p, cap, v, hs⟩ := h
  obtain ⟨n, hn⟩ : ∃ n, n = l.length := ⟨_, rfl⟩
  have c0 : w.cell? ⟨ga, 0, none⟩ = some (.slice p (n + 1) cap) := by rw [hn]; exact hs.mem.blk.cell 0
  obtain ⟨b, off, q, qc, rfl, hr, hg⟩ := (hs.items.below hs.below).get 0 (by simp)
  have hle : n + 1 ≤ cap := by rw [hn]; exact hs.le
  have hmx := hs.max
  simp only [List.getElem_cons_zero, Nat.zero_mul, Nat.add_zero] at hr hg
  have hsz : (Try.prog.info? 98).map (fun i => i.size) = some (icells x q qc).length := by rw [item_size, icells_length hg.ok]
  have HS := Lib.hid hs
  have HR := Lib.hid hr
  have HG := Lib.hid hg
  have HO := Lib.hid ho
  have HN := Lib.hid hn
  have HP := Lib.hid (putS_no (out := out) (l := l) ho)
  clear hs hr hg ho hn
  go_enter Try.func68, Try.ntmps68
  go_wp2_with (first
    | (refine BigFrame.wpList_want rfl (fun K hK => wp_load_mid 98 (.tmp 20) rfl b off rfl _ _ HR.out Try.underlying98 rfl hsz (hK _ _ ?_)))
    | (go_at_call 76; refine (named_is false c x q qc _ HG.out.ok HO.out).mono ?_; rintro e w1 ⟨rfl, hb1⟩))
  go_ret2
  exact ⟨by rw [HP.out]; rfl, by rw [HP.out]; exact ⟨_, _, _, HS.out.below_on hb1⟩, others_of_below _ _ hb1⟩

theorem range_belowF {w w' : World} {b o : Nat} {cs : List Value} (h : w.rangeAt b o cs) (hb : Below w.heap.size w w') : w'.rangeAt b o cs := fun j v hv => by
  have := h j v hv
  rw [hb.cell (World.block_lt_of_cell? w _ this)]; exact this
theorem icells_all (x : Itm) (q : Option Addr) (c : Nat) : (icells x q c).toArray.all (·.oneCell') = true := all_oneCell_toArray (icells_one x q c)
theorem item0_ok : Itm.ok ⟨0, [], Fld.zero32⟩ := ⟨by simp, by simp, by simp, by unfold Fld.zero32; intro n hn; have := List.eq_of_mem_replicate hn; omega, Fld.zero32_length⟩
set_option maxRecDepth 100000 in
set_option maxHeartbeats 2000000 in
theorem put_bd (w0 : World) (ga : Nat) (c e0 : Int) (hc : Fld.isC c) (out : List Int) (x : Itm) (l : List Itm) (w : World) (h : WAt w0 ga (out, x :: l) w) (ho : Fld.okFor c x = true) (hb : Fld.bound c x = e0) (he : (e0 == 0) = false) :
    Calls Try.prog 68 #[.pointer (some ⟨ga, 0, none⟩), .int .i32 c] w (PDone w0 ga c (out, x :: l) w) := by
  obtain ⟨p, cap, v, hs⟩ := h
  obtain ⟨n, hn⟩ : ∃ n, n = l.length := ⟨_, rfl⟩
  have c0 : w.cell? ⟨ga, 0, none⟩ = some (.slice p (n + 1) cap) := by rw [hn]; exact hs.mem.blk.cell 0
  obtain ⟨b, off, q, qc, rfl, hr, hg⟩ := (hs.items.below hs.below).get 0 (by simp)
  have hle : n + 1 ≤ cap := by rw [hn]; exact hs.le
  have hmx := hs.max
  simp only [List.getElem_cons_zero, Nat.zero_mul, Nat.add_zero] at hr hg
  have hsz : (Try.prog.info? 98).map (fun i => i.size) = some (icells x q qc).length := by rw [item_size, icells_length hg.ok]
  have hsz2 : (Try.prog.info? 98).map (fun i => i.size) = some (icells x q qc).toArray.size := by rw [hsz]; simp
  have hsz3 : (icells ⟨0, [], Fld.zero32⟩ none 0).toArray.size = (icells x q qc).toArray.size := by rw [List.size_toArray, List.size_toArray, icells_length hg.ok, icells_length item0_ok]
  have HA := Lib.hid (show ga < w.heap.size from hs.mem.blk.lt)
  have HS := Lib.hid hs
  have HR := Lib.hid hr
  have HG := Lib.hid hg
  have HO := Lib.hid ho
  have HN := Lib.hid hn
  have HP := Lib.hid (putS_bd (out := out) (l := l) ho (by rw [hb]; simpa using he))
  have HBD := Lib.hid hb
  clear hs hr hg ho hn hb
  go_enter Try.func68, Try.ntmps68
  go_wp2_with (first
    | (refine BigFrame.wpList_want rfl (fun K hK => wp_load_mid 98 (.tmp 20) rfl b off rfl _ _ HR.out Try.underlying98 rfl hsz (hK _ _ ?_)))
    | (go_at_call 76; refine (named_is true c x q qc _ HG.out.ok HO.out).mono ?_; rintro e w1 ⟨rfl, hb1⟩; have c0' : w1.cell? ⟨ga, 0, none⟩ = some (.slice (some ⟨b, off, none⟩) (n + 1) cap) := (hb1.cell HA.out).trans c0; have HR1 := Lib.hid (range_belowF HR.out hb1); have HB1 := Lib.hid hb1; clear hb1)
    | (refine wpList_load_mid rfl 98 (.tmp 29) rfl b off rfl _ _ HR1.out Try.underlying98 rfl hsz ?_)
    | (refine wpList_alloc_arr rfl 98 rfl _ item_info ?_)
    | (refine wpList_store_row rfl 98 _ _ rfl _ _ rfl rfl 98 _ (heap_alloc_new _ _) hsz2 hsz3 (icells_all _ _ _) ?_; rw [World.setRow_alloc_new]; have K3 := Blk.new w1 (icells x q qc).toArray 98; have B3 : Below w.heap.size w (w1.alloc (Obj.cells (icells x q qc).toArray 98)) := HB1.out.alloc HB1.out.size _; have hgx : w.heap.size ≤ w1.heap.size := HB1.out.size; generalize w1.alloc (Obj.cells (icells x q qc).toArray 98) = w3 at *; generalize w1.heap.size = gx at *; rw [List.toList_toArray] at K3; have HK3 := Lib.hid K3; have HB3 := Lib.hid B3; have d0 : w3.cell? ⟨ga, 0, none⟩ = some (.slice (some ⟨b, off, none⟩) (n + 1) cap) := (B3.cell HA.out).trans c0; clear K3 B3)
    | (refine wpList_load_mid rfl 98 (.tmp 6) rfl gx 0 rfl _ _ HK3.out.range Try.underlying98 rfl hsz ?_)
    | (go_at_call 77; refine (bounded_is e0 c x q qc _ HG.out.ok hc HBD.out).mono ?_; rintro e w4 ⟨rfl, hb4⟩))
  go_ret2
  have hb5 := HB3.out.trans (hb4.mono HB3.out.size)
  exact ⟨by rw [HP.out, HBD.out]; rfl, by rw [HP.out]; exact ⟨_, _, _, HS.out.below_on hb5⟩, others_of_below _ _ hb5⟩
end
end Go.Proofs.Yteepaoklibflpaa
