/-
  What an item may be: the contracts of named and bounded.
-/
import Derived.Test.YtgakmkglejddeaaItm
import Derived.WalkSpells
import Derived.IntWalk
import Derived.WalkLawsBesides
namespace Go.Proofs.Ytgakmkglejddeaa
set_option linter.unusedSimpArgs false
set_option linter.unusedVariables false
open Go.RowKit Sha
open Fld (Itm)
theorem ret_bool {a b : Bool} (h : a = b) : Ending.returned (.bool a) = .returned (.bool b) := by rw [h]
/-- The last test of named, whatever the item has become. -/
theorem okFor_98 (x : Itm) : Fld.okFor 98 x = (decide (x.N = 0) && decide (x.D = Fld.zero32)) := by simp [Fld.okFor]
theorem okFor_100 (x : Itm) : Fld.okFor 100 x = (decide (x.N = 0) && decide (x.B = [])) := by simp [Fld.okFor]
theorem okFor_n' (c : Int) (x : Itm) (h1 : c ≠ 98) (h2 : c ≠ 100) : Fld.okFor c x = (decide (x.B = []) && decide (x.D = Fld.zero32)) := by simp [Fld.okFor, h1, h2]
set_option maxRecDepth 100000 in
set_option maxHeartbeats 2000000 in
theorem named_98 (x : Itm) (q : Option Addr) (cap : Nat) (w : World) (hx : x.ok) :
    Calls Try.prog 35 #[.int .i32 98, .agg (icells x q cap).toArray] w fun e w' => e = .returned (.bool (Fld.okFor 98 x)) ∧ Below w.heap.size w w' := by
  have hszd : (Try.prog.info? 38).map (fun i => i.size) = some (x.D.map v8).length := by rw [id_size]; simp [hx.len]
  have hszz : (Try.prog.info? 38).map (fun i => i.size) = some (Fld.zero32.map v8).length := by rw [id_size]; simp [Fld.zero32_length]
  have hszz' : (Try.prog.info? 38).map (fun i => i.size) = some (Fld.zero32.map v8).toArray.size := by rw [id_size]; simp [Fld.zero32_length]
  have Hx := Lib.hid hx.len
  have Hl := Lib.hid (icells_length hx q cap)
  have Hz := Lib.hid Fld.zero32_length
  clear hx
  have HR := Lib.hid (okFor_98 x)
  by_cases hN' : x.N = 0
  · have hN : (x.N == 0) = true := by simpa using hN'
    have HN := Lib.hid hN'
    clear hN'
    go_enter Try.func35, Try.ntmps35
    go_wp2_with (first
            | (refine wpList_box_new rfl 40 _ rfl _ rfl ?_; intro w1 g K1 B1 G1; have c0 : w1.cell? ⟨g, 0, none⟩ = some (.int .i64 x.N) := (K1.cell 0).trans (icells_0 _ _ _); have c1 : w1.cell? ⟨g, 1, none⟩ = some (.slice q x.B.length cap) := (K1.cell 1).trans (icells_1 _ _ _); have f0 := K1.free 0; have f1 := K1.free 1; have K2 := Lib.hid (show Blk (w1.setCell ⟨g, 1, none⟩ (.slice none 0 0)) g (icells ⟨x.N, [], x.D⟩ none 0) 40 by rw [← icells_set1 x q cap [] none 0]; exact K1.set 1 _); have B1 := Lib.hid B1; clear K1)
            | (refine BigFrame.wpList_want rfl (fun K hK => wp_load_mid 38 (.tmp 24) rfl _ 2 rfl _ _ K2.out.rangeId Try.underlying38 rfl hszd (hK _ _ ?_)))
            | (refine BigFrame.wpList_want rfl (fun K hK => wp_build' 38 #[] rfl _ id_zero (hK _ _ ?_)))
            | (refine BigFrame.wpList_want rfl (fun K hK => wp_eql_arr 38 (.tmp 25) (.tmp 26) _ rfl 5 32 .u8 Try.underlying38 Try.underlying5 kslice1 x.D Fld.zero32 rfl rfl Hx.out Hz.out (hK _ _ ?_))))
    go_ret
    exact ⟨ret_bool (by rw [HR.out, HN.out]; simp), B1.out.setCell G1 _⟩
  · have hN : (x.N == 0) = false := by simpa using hN'
    have HN := Lib.hid hN'
    clear hN'
    go_enter Try.func35, Try.ntmps35
    go_wp2_with (first
            | (refine wpList_box_new rfl 40 _ rfl _ rfl ?_; intro w1 g K1 B1 G1; have c0 : w1.cell? ⟨g, 0, none⟩ = some (.int .i64 x.N) := (K1.cell 0).trans (icells_0 _ _ _); have c1 : w1.cell? ⟨g, 1, none⟩ = some (.slice q x.B.length cap) := (K1.cell 1).trans (icells_1 _ _ _); have f0 := K1.free 0; have f1 := K1.free 1; have K2 := Lib.hid (show Blk (w1.setCell ⟨g, 1, none⟩ (.slice none 0 0)) g (icells ⟨x.N, [], x.D⟩ none 0) 40 by rw [← icells_set1 x q cap [] none 0]; exact K1.set 1 _); have B1 := Lib.hid B1; clear K1)
            | (refine BigFrame.wpList_want rfl (fun K hK => wp_load_mid 38 (.tmp 24) rfl _ 2 rfl _ _ K2.out.rangeId Try.underlying38 rfl hszd (hK _ _ ?_)))
            | (refine BigFrame.wpList_want rfl (fun K hK => wp_build' 38 #[] rfl _ id_zero (hK _ _ ?_)))
            | (refine BigFrame.wpList_want rfl (fun K hK => wp_eql_arr 38 (.tmp 25) (.tmp 26) _ rfl 5 32 .u8 Try.underlying38 Try.underlying5 kslice1 x.D Fld.zero32 rfl rfl Hx.out Hz.out (hK _ _ ?_))))
    go_ret
    exact ⟨ret_bool (by rw [HR.out]; simp [HN.out]), B1.out.setCell G1 _⟩
set_option maxRecDepth 100000 in
set_option maxHeartbeats 2000000 in
theorem named_100 (x : Itm) (q : Option Addr) (cap : Nat) (w : World) (hx : x.ok) :
    Calls Try.prog 35 #[.int .i32 100, .agg (icells x q cap).toArray] w fun e w' => e = .returned (.bool (Fld.okFor 100 x)) ∧ Below w.heap.size w w' := by
  have hszd : (Try.prog.info? 38).map (fun i => i.size) = some (x.D.map v8).length := by rw [id_size]; simp [hx.len]
  have hszz : (Try.prog.info? 38).map (fun i => i.size) = some (Fld.zero32.map v8).length := by rw [id_size]; simp [Fld.zero32_length]
  have hszz' : (Try.prog.info? 38).map (fun i => i.size) = some (Fld.zero32.map v8).toArray.size := by rw [id_size]; simp [Fld.zero32_length]
  have Hx := Lib.hid hx.len
  have Hl := Lib.hid (icells_length hx q cap)
  have Hz := Lib.hid Fld.zero32_length
  clear hx
  have HR := Lib.hid (okFor_100 x)
  by_cases hN' : x.N = 0
  · have hN : (x.N == 0) = true := by simpa using hN'
    have HN := Lib.hid hN'
    clear hN'
    by_cases hB' : x.B = []
    · have hB : ((x.B.length : Int) == 0) = true := by simp [hB']
      have HB := Lib.hid hB'
      clear hB'
      go_enter Try.func35, Try.ntmps35
      go_wp2_with (first
              | (refine wpList_box_new rfl 40 _ rfl _ rfl ?_; intro w1 g K1 B1 G1; have c0 : w1.cell? ⟨g, 0, none⟩ = some (.int .i64 x.N) := (K1.cell 0).trans (icells_0 _ _ _); have c1 : w1.cell? ⟨g, 1, none⟩ = some (.slice q x.B.length cap) := (K1.cell 1).trans (icells_1 _ _ _); have f0 := K1.free 0; have f1 := K1.free 1; have TH := Lib.hid (K1.there 2 32 (by rw [Hl.out]; decide)); have KK := Lib.hid (icells_set2 q cap 40 K1 Fld.zero32 (by rw [Hx.out, Hz.out])); have B1 := Lib.hid B1; clear K1)
              | (refine wpList_store_mid rfl 38 _ _ rfl g 2 (Fld.zero32.map v8).toArray rfl rfl (by simpa [Hz.out] using TH.out) hszz' (v8_one _) ?_; rw [List.toList_toArray]; have k2 := KK.out; have B2 := Lib.hid (setCells_below G1 (Fld.zero32.map v8) 2 _ B1.out); generalize w1.setCells g 2 (Fld.zero32.map v8) = w2 at *; have d0 : w2.cell? ⟨g, 0, none⟩ = some (.int .i64 x.N) := (k2.cell 0).trans (icells_0 _ _ _); have d1 : w2.cell? ⟨g, 1, none⟩ = some (.slice q x.B.length cap) := (k2.cell 1).trans (icells_1 _ _ _); have K2 := Lib.hid k2; clear k2)
              | (refine BigFrame.wpList_want rfl (fun K hK => wp_load_mid 38 (.tmp 24) rfl _ 2 rfl _ _ K2.out.rangeId Try.underlying38 rfl hszz (hK _ _ ?_)))
              | (refine BigFrame.wpList_want rfl (fun K hK => wp_build' 38 #[] rfl _ id_zero (hK _ _ ?_)))
              | (refine wpList_build' rfl 38 #[] rfl _ id_zero ?_)
              | (refine BigFrame.wpList_want rfl (fun K hK => wp_eql_arr 38 (.tmp 25) (.tmp 26) _ rfl 5 32 .u8 Try.underlying38 Try.underlying5 kslice1 Fld.zero32 Fld.zero32 rfl rfl Hz.out Hz.out (hK _ _ ?_))))
      go_ret
      exact ⟨ret_bool (by rw [HR.out, HN.out, HB.out]; simp), B2.out⟩
    · have hB : ((x.B.length : Int) == 0) = false := by simp; exact hB'
      have HB := Lib.hid hB'
      clear hB'
      go_enter Try.func35, Try.ntmps35
      go_wp2_with (first
              | (refine wpList_box_new rfl 40 _ rfl _ rfl ?_; intro w1 g K1 B1 G1; have c0 : w1.cell? ⟨g, 0, none⟩ = some (.int .i64 x.N) := (K1.cell 0).trans (icells_0 _ _ _); have c1 : w1.cell? ⟨g, 1, none⟩ = some (.slice q x.B.length cap) := (K1.cell 1).trans (icells_1 _ _ _); have f0 := K1.free 0; have f1 := K1.free 1; have TH := Lib.hid (K1.there 2 32 (by rw [Hl.out]; decide)); have KK := Lib.hid (icells_set2 q cap 40 K1 Fld.zero32 (by rw [Hx.out, Hz.out])); have B1 := Lib.hid B1; clear K1)
              | (refine wpList_store_mid rfl 38 _ _ rfl g 2 (Fld.zero32.map v8).toArray rfl rfl (by simpa [Hz.out] using TH.out) hszz' (v8_one _) ?_; rw [List.toList_toArray]; have k2 := KK.out; have B2 := Lib.hid (setCells_below G1 (Fld.zero32.map v8) 2 _ B1.out); generalize w1.setCells g 2 (Fld.zero32.map v8) = w2 at *; have d0 : w2.cell? ⟨g, 0, none⟩ = some (.int .i64 x.N) := (k2.cell 0).trans (icells_0 _ _ _); have d1 : w2.cell? ⟨g, 1, none⟩ = some (.slice q x.B.length cap) := (k2.cell 1).trans (icells_1 _ _ _); have K2 := Lib.hid k2; clear k2)
              | (refine BigFrame.wpList_want rfl (fun K hK => wp_load_mid 38 (.tmp 24) rfl _ 2 rfl _ _ K2.out.rangeId Try.underlying38 rfl hszz (hK _ _ ?_)))
              | (refine BigFrame.wpList_want rfl (fun K hK => wp_build' 38 #[] rfl _ id_zero (hK _ _ ?_)))
              | (refine wpList_build' rfl 38 #[] rfl _ id_zero ?_)
              | (refine BigFrame.wpList_want rfl (fun K hK => wp_eql_arr 38 (.tmp 25) (.tmp 26) _ rfl 5 32 .u8 Try.underlying38 Try.underlying5 kslice1 Fld.zero32 Fld.zero32 rfl rfl Hz.out Hz.out (hK _ _ ?_))))
      go_ret
      exact ⟨ret_bool (by rw [HR.out]; simp [HB.out]), B2.out⟩
  · have hN : (x.N == 0) = false := by simpa using hN'
    have HN := Lib.hid hN'
    clear hN'
    go_enter Try.func35, Try.ntmps35
    go_wp2_with (first
            | (refine wpList_box_new rfl 40 _ rfl _ rfl ?_; intro w1 g K1 B1 G1; have c0 : w1.cell? ⟨g, 0, none⟩ = some (.int .i64 x.N) := (K1.cell 0).trans (icells_0 _ _ _); have c1 : w1.cell? ⟨g, 1, none⟩ = some (.slice q x.B.length cap) := (K1.cell 1).trans (icells_1 _ _ _); have f0 := K1.free 0; have f1 := K1.free 1; have TH := Lib.hid (K1.there 2 32 (by rw [Hl.out]; decide)); have KK := Lib.hid (icells_set2 q cap 40 K1 Fld.zero32 (by rw [Hx.out, Hz.out])); have B1 := Lib.hid B1; clear K1)
            | (refine wpList_store_mid rfl 38 _ _ rfl g 2 (Fld.zero32.map v8).toArray rfl rfl (by simpa [Hz.out] using TH.out) hszz' (v8_one _) ?_; rw [List.toList_toArray]; have k2 := KK.out; have B2 := Lib.hid (setCells_below G1 (Fld.zero32.map v8) 2 _ B1.out); generalize w1.setCells g 2 (Fld.zero32.map v8) = w2 at *; have d0 : w2.cell? ⟨g, 0, none⟩ = some (.int .i64 x.N) := (k2.cell 0).trans (icells_0 _ _ _); have d1 : w2.cell? ⟨g, 1, none⟩ = some (.slice q x.B.length cap) := (k2.cell 1).trans (icells_1 _ _ _); have K2 := Lib.hid k2; clear k2)
            | (refine BigFrame.wpList_want rfl (fun K hK => wp_load_mid 38 (.tmp 24) rfl _ 2 rfl _ _ K2.out.rangeId Try.underlying38 rfl hszz (hK _ _ ?_)))
            | (refine BigFrame.wpList_want rfl (fun K hK => wp_build' 38 #[] rfl _ id_zero (hK _ _ ?_)))
            | (refine wpList_build' rfl 38 #[] rfl _ id_zero ?_)
            | (refine BigFrame.wpList_want rfl (fun K hK => wp_eql_arr 38 (.tmp 25) (.tmp 26) _ rfl 5 32 .u8 Try.underlying38 Try.underlying5 kslice1 Fld.zero32 Fld.zero32 rfl rfl Hz.out Hz.out (hK _ _ ?_))))
    go_ret
    exact ⟨ret_bool (by rw [HR.out]; simp [HN.out]), B2.out⟩
set_option maxRecDepth 100000 in
set_option maxHeartbeats 2000000 in
theorem named_n (c : Int) (x : Itm) (q : Option Addr) (cap : Nat) (w : World) (hx : x.ok) (h98 : c ≠ 98) (h100 : c ≠ 100) :
    Calls Try.prog 35 #[.int .i32 c, .agg (icells x q cap).toArray] w fun e w' => e = .returned (.bool (Fld.okFor c x)) ∧ Below w.heap.size w w' := by
  have hszd : (Try.prog.info? 38).map (fun i => i.size) = some (x.D.map v8).length := by rw [id_size]; simp [hx.len]
  have hszz : (Try.prog.info? 38).map (fun i => i.size) = some (Fld.zero32.map v8).length := by rw [id_size]; simp [Fld.zero32_length]
  have hszz' : (Try.prog.info? 38).map (fun i => i.size) = some (Fld.zero32.map v8).toArray.size := by rw [id_size]; simp [Fld.zero32_length]
  have Hx := Lib.hid hx.len
  have Hl := Lib.hid (icells_length hx q cap)
  have Hz := Lib.hid Fld.zero32_length
  clear hx
  have HR := Lib.hid (okFor_n' c x h98 h100)
  have t98 : (c == 98) = false := by simpa using h98
  have t100 : (c == 100) = false := by simpa using h100
  clear h98 h100
  by_cases hB' : x.B = []
  · have hB : ((x.B.length : Int) == 0) = true := by simp [hB']
    have HB := Lib.hid hB'
    clear hB'
    go_enter Try.func35, Try.ntmps35
    go_wp2_with (first
            | (refine wpList_box_new rfl 40 _ rfl _ rfl ?_; intro w1 g K1 B1 G1; have c0 : w1.cell? ⟨g, 0, none⟩ = some (.int .i64 x.N) := (K1.cell 0).trans (icells_0 _ _ _); have c1 : w1.cell? ⟨g, 1, none⟩ = some (.slice q x.B.length cap) := (K1.cell 1).trans (icells_1 _ _ _); have f0 := K1.free 0; have f1 := K1.free 1; have K2 := Lib.hid (show Blk (w1.setCell ⟨g, 0, none⟩ (.int .i64 0)) g (icells ⟨0, x.B, x.D⟩ q cap) 40 by rw [← icells_set0 x q cap 0]; exact K1.set 0 _); have B1 := Lib.hid B1; clear K1)
            | (refine BigFrame.wpList_want rfl (fun K hK => wp_load_mid 38 (.tmp 24) rfl _ 2 rfl _ _ K2.out.rangeId Try.underlying38 rfl hszd (hK _ _ ?_)))
            | (refine BigFrame.wpList_want rfl (fun K hK => wp_build' 38 #[] rfl _ id_zero (hK _ _ ?_)))
            | (refine BigFrame.wpList_want rfl (fun K hK => wp_eql_arr 38 (.tmp 25) (.tmp 26) _ rfl 5 32 .u8 Try.underlying38 Try.underlying5 kslice1 x.D Fld.zero32 rfl rfl Hx.out Hz.out (hK _ _ ?_))))
    go_ret
    exact ⟨ret_bool (by rw [HR.out, HB.out]; simp), B1.out.setCell G1 _⟩
  · have hB : ((x.B.length : Int) == 0) = false := by simp; exact hB'
    have HB := Lib.hid hB'
    clear hB'
    go_enter Try.func35, Try.ntmps35
    go_wp2_with (first
            | (refine wpList_box_new rfl 40 _ rfl _ rfl ?_; intro w1 g K1 B1 G1; have c0 : w1.cell? ⟨g, 0, none⟩ = some (.int .i64 x.N) := (K1.cell 0).trans (icells_0 _ _ _); have c1 : w1.cell? ⟨g, 1, none⟩ = some (.slice q x.B.length cap) := (K1.cell 1).trans (icells_1 _ _ _); have f0 := K1.free 0; have f1 := K1.free 1; have K2 := Lib.hid (show Blk (w1.setCell ⟨g, 0, none⟩ (.int .i64 0)) g (icells ⟨0, x.B, x.D⟩ q cap) 40 by rw [← icells_set0 x q cap 0]; exact K1.set 0 _); have B1 := Lib.hid B1; clear K1)
            | (refine BigFrame.wpList_want rfl (fun K hK => wp_load_mid 38 (.tmp 24) rfl _ 2 rfl _ _ K2.out.rangeId Try.underlying38 rfl hszd (hK _ _ ?_)))
            | (refine BigFrame.wpList_want rfl (fun K hK => wp_build' 38 #[] rfl _ id_zero (hK _ _ ?_)))
            | (refine BigFrame.wpList_want rfl (fun K hK => wp_eql_arr 38 (.tmp 25) (.tmp 26) _ rfl 5 32 .u8 Try.underlying38 Try.underlying5 kslice1 x.D Fld.zero32 rfl rfl Hx.out Hz.out (hK _ _ ?_))))
    go_ret
    exact ⟨ret_bool (by rw [HR.out]; simp [HB.out]), B1.out.setCell G1 _⟩
theorem named_any (c : Int) (x : Itm) (q : Option Addr) (cap : Nat) (w : World) (hx : x.ok) :
    Calls Try.prog 35 #[.int .i32 c, .agg (icells x q cap).toArray] w fun e w' => e = .returned (.bool (Fld.okFor c x)) ∧ Below w.heap.size w w' := by
  by_cases h98 : c = 98
  · subst h98; exact named_98 x q cap w hx
  · by_cases h100 : c = 100
    · subst h100; exact named_100 x q cap w hx
    · exact named_n c x q cap w hx h98 h100
end Go.Proofs.Ytgakmkglejddeaa
