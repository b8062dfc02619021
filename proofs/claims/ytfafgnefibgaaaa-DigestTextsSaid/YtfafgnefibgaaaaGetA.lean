/-
  The contracts of digitNumbers and Get.
-/
import Derived.Test.YtfafgnefibgaaaaLaw1
import Derived.Test.YtfafgnefibgaaaaGet
namespace Go.Proofs.Ytfafgnefibgaaaa
set_option linter.unusedSimpArgs false
set_option linter.unusedVariables false
open Go.RowKit Go.Maps Sha
theorem law5 : Keyed Try.prog 5 := int_keyed Try.underlying5
theorem zero5 (w : World) : (zeroValue 5).run Try.prog w = .ok (.int .u8 0) w := by kernel_rfl
theorem run_digit64 (n : Nat) (h : n < 16) (w : World) : (Instr.index 9 (.string ⟨#[48, 49, 50, 51, 52, 53, 54, 55, 56, 57, 97, 98, 99, 100, 101, 102]⟩) (.int .i64 (n : Int))).run Try.prog w = .ok (v8 (digit (n : Int))) w := by
  have a0 : ∀ w, (Instr.index 9 (.string ⟨#[48, 49, 50, 51, 52, 53, 54, 55, 56, 57, 97, 98, 99, 100, 101, 102]⟩) (.int .i64 0)).run Try.prog w = .ok (v8 (digit 0)) w := fun _ => by kernel_rfl
  have a1 : ∀ w, (Instr.index 9 (.string ⟨#[48, 49, 50, 51, 52, 53, 54, 55, 56, 57, 97, 98, 99, 100, 101, 102]⟩) (.int .i64 1)).run Try.prog w = .ok (v8 (digit 1)) w := fun _ => by kernel_rfl
  have a2 : ∀ w, (Instr.index 9 (.string ⟨#[48, 49, 50, 51, 52, 53, 54, 55, 56, 57, 97, 98, 99, 100, 101, 102]⟩) (.int .i64 2)).run Try.prog w = .ok (v8 (digit 2)) w := fun _ => by kernel_rfl
  have a3 : ∀ w, (Instr.index 9 (.string ⟨#[48, 49, 50, 51, 52, 53, 54, 55, 56, 57, 97, 98, 99, 100, 101, 102]⟩) (.int .i64 3)).run Try.prog w = .ok (v8 (digit 3)) w := fun _ => by kernel_rfl
  have a4 : ∀ w, (Instr.index 9 (.string ⟨#[48, 49, 50, 51, 52, 53, 54, 55, 56, 57, 97, 98, 99, 100, 101, 102]⟩) (.int .i64 4)).run Try.prog w = .ok (v8 (digit 4)) w := fun _ => by kernel_rfl
  have a5 : ∀ w, (Instr.index 9 (.string ⟨#[48, 49, 50, 51, 52, 53, 54, 55, 56, 57, 97, 98, 99, 100, 101, 102]⟩) (.int .i64 5)).run Try.prog w = .ok (v8 (digit 5)) w := fun _ => by kernel_rfl
  have a6 : ∀ w, (Instr.index 9 (.string ⟨#[48, 49, 50, 51, 52, 53, 54, 55, 56, 57, 97, 98, 99, 100, 101, 102]⟩) (.int .i64 6)).run Try.prog w = .ok (v8 (digit 6)) w := fun _ => by kernel_rfl
  have a7 : ∀ w, (Instr.index 9 (.string ⟨#[48, 49, 50, 51, 52, 53, 54, 55, 56, 57, 97, 98, 99, 100, 101, 102]⟩) (.int .i64 7)).run Try.prog w = .ok (v8 (digit 7)) w := fun _ => by kernel_rfl
  have a8 : ∀ w, (Instr.index 9 (.string ⟨#[48, 49, 50, 51, 52, 53, 54, 55, 56, 57, 97, 98, 99, 100, 101, 102]⟩) (.int .i64 8)).run Try.prog w = .ok (v8 (digit 8)) w := fun _ => by kernel_rfl
  have a9 : ∀ w, (Instr.index 9 (.string ⟨#[48, 49, 50, 51, 52, 53, 54, 55, 56, 57, 97, 98, 99, 100, 101, 102]⟩) (.int .i64 9)).run Try.prog w = .ok (v8 (digit 9)) w := fun _ => by kernel_rfl
  have a10 : ∀ w, (Instr.index 9 (.string ⟨#[48, 49, 50, 51, 52, 53, 54, 55, 56, 57, 97, 98, 99, 100, 101, 102]⟩) (.int .i64 10)).run Try.prog w = .ok (v8 (digit 10)) w := fun _ => by kernel_rfl
  have a11 : ∀ w, (Instr.index 9 (.string ⟨#[48, 49, 50, 51, 52, 53, 54, 55, 56, 57, 97, 98, 99, 100, 101, 102]⟩) (.int .i64 11)).run Try.prog w = .ok (v8 (digit 11)) w := fun _ => by kernel_rfl
  have a12 : ∀ w, (Instr.index 9 (.string ⟨#[48, 49, 50, 51, 52, 53, 54, 55, 56, 57, 97, 98, 99, 100, 101, 102]⟩) (.int .i64 12)).run Try.prog w = .ok (v8 (digit 12)) w := fun _ => by kernel_rfl
  have a13 : ∀ w, (Instr.index 9 (.string ⟨#[48, 49, 50, 51, 52, 53, 54, 55, 56, 57, 97, 98, 99, 100, 101, 102]⟩) (.int .i64 13)).run Try.prog w = .ok (v8 (digit 13)) w := fun _ => by kernel_rfl
  have a14 : ∀ w, (Instr.index 9 (.string ⟨#[48, 49, 50, 51, 52, 53, 54, 55, 56, 57, 97, 98, 99, 100, 101, 102]⟩) (.int .i64 14)).run Try.prog w = .ok (v8 (digit 14)) w := fun _ => by kernel_rfl
  have a15 : ∀ w, (Instr.index 9 (.string ⟨#[48, 49, 50, 51, 52, 53, 54, 55, 56, 57, 97, 98, 99, 100, 101, 102]⟩) (.int .i64 15)).run Try.prog w = .ok (v8 (digit 15)) w := fun _ => by kernel_rfl
  have : n = 0 ∨ n = 1 ∨ n = 2 ∨ n = 3 ∨ n = 4 ∨ n = 5 ∨ n = 6 ∨ n = 7 ∨ n = 8 ∨ n = 9 ∨ n = 10 ∨ n = 11 ∨ n = 12 ∨ n = 13 ∨ n = 14 ∨ n = 15 := by omega
  rcases this with rfl | rfl | rfl | rfl | rfl | rfl | rfl | rfl | rfl | rfl | rfl | rfl | rfl | rfl | rfl | rfl
  · exact a0 w
  · exact a1 w
  · exact a2 w
  · exact a3 w
  · exact a4 w
  · exact a5 w
  · exact a6 w
  · exact a7 w
  · exact a8 w
  · exact a9 w
  · exact a10 w
  · exact a11 w
  · exact a12 w
  · exact a13 w
  · exact a14 w
  · exact a15 w
theorem digit_wf (n : Nat) (h : n < 16) : (Lit.int .u8 (digit (n : Int))).wf = true := WalkArith.wf_u8 (by have := (digit_num (n : Int) (by omega)).2.2; omega)
set_option maxRecDepth 100000 in
set_option maxHeartbeats 2000000 in
theorem numbers_any (w : World) : Calls Try.prog 33 #[] w fun e w' => e = .returned (.map (some w.heap.size)) ∧ w'.ownsMap Try.prog 5 (plainElem Try.prog 5) w.heap.size 16 (digMap 16) ∧ Below w.heap.size w w' := by
  have hmm := @run_makeMap Try.prog
  go_enter Try.func33, Try.ntmps33
  go_wp2_with fail
  clear hmm
  go_loopw [4] (fun i wr => ∃ k : Nat, k ≤ 16 ∧ i = .int .i64 k ∧ wr.ownsMap Try.prog 5 (plainElem Try.prog 5) w.heap.size k (digMap k) ∧ Below w.heap.size w wr) (fun i _ => 16 - (intOf i).toNat)
  case atStart => exact ⟨0, by omega, rfl, by rw [digMap_zero]; exact World.ownsMap_made _ _ _ _, (Below.refl _ _).alloc (Nat.le_refl _) _⟩
  case round =>
    obtain ⟨k, hk, rfl, hown, hb⟩ := hrel
    have HO := Lib.hid hown
    clear hown
    by_cases hlt : k < 16
    · have d := run_digit64 k hlt
      have hkey : keyOf Try.prog 5 (v8 (digit (k : Int))) = some (.int .u8 (digit (k : Int))) := keyOf_int_mk Try.underlying5 (digit_wf k hlt)
      have HKEY := Lib.hid hkey
      have hwf : (Lit.int .u8 (k : Int)).wf = true := WalkArith.wf_u8 (by omega)
      have HW := Lib.hid hwf
      clear hkey hwf
      go_wp2_with (at_mapUpdate; refine wpList_mapUpdate_own _ rfl _ _ _ 53 rfl 5 5 law5 Try.underlying53 _ w.heap.size k _ rfl HO.out (by unfold maxLen; omega) _ _ _ rfl rfl HKEY.out _ [] (plainElem_int Try.underlying5 HW.out) ?_; intro w1 hown1 hgrow1)
      go_roundw
      case rel => exact ⟨k + 1, by omega, by go_num, by rw [digMap_succ]; exact hown1, hb.grown hgrow1 hb.size (fun j hj => by cases hj; exact Nat.le_refl _)⟩
      case measure => simp [intOf]; omega
    · obtain rfl : k = 16 := by omega
      go_wp2_with fail
      go_ret
      exact ⟨rfl, HO.out, hb⟩
theorem run_byte (s : ByteArray) (k : Nat) (hk : k < s.size) (w : World) : (Instr.index 9 (.string s) (.int .i64 (k : Int))).run Try.prog w = .ok (v8 ((nums s).getD k 0)) w := by
  rw [run_index_string w 9 s .i64 (k : Int) Try.underlying9, dif_pos ⟨by omega, by omega⟩]
  congr 2
  unfold nums
  have h : k < s.data.toList.length := by rw [Array.length_toList]; exact hk
  rw [List.getD_eq_getElem?_getD, List.getElem?_map, List.getElem?_eq_getElem h]
  simp
  rfl
theorem results_row_tmp {P : Program} {fn : Func} {p u : Tmp} {ty : TypeId} (h : fn.results = #[.cell p ty, .tmp u]) (tmps : Array Value) (w : World) (g : Nat) (t : TypeId) (cs : Array Value) (fr : Nat × Nat) (d : TypeDesc)
    (x : Value) (hp : tmps.getD p undef = .pointer (some ⟨g, 0, none⟩)) (hg : w.heap[g]? = some (.cells cs t fr))
    (hu : P.underlying ty = some d) (hd : (match d with | .struct _ | .array _ _ => true | _ => false) = true) (hi : (P.info? ty).map (·.size) = some cs.size) (hx : tmps.getD u undef = x) :
    (results fn tmps).run P w = .ok (.tuple #[.agg cs, x]) w := by
  subst hx
  rw [results_cell_tmp h]
  have hp' : tmps[p]?.getD undef = .pointer (some ⟨g, 0, none⟩) := by simpa using hp
  simp [hp', asAddr, run_loadVar_row w g t ty cs fr d hg hu hd hi]
theorem built26 : Try.prog.built 26 [] = some (zero32.map v8).toArray := by kernel_rfl
theorem orv_eq (x n : Int) : orv x n = bits .or .u8 (x * 16 % 256) n := by unfold orv; rfl
/-- What Get answers, as values. -/
def getIds (o : Option (List Int)) : Value := .agg (((o.getD zero32)).map v8).toArray
def getErr (o : Option (List Int)) : Int := if o.isSome then 0 else 10
set_option maxRecDepth 100000 in
set_option maxHeartbeats 2000000 in
theorem get_any (s : ByteArray) (w : World) (hm : s.size ≤ maxLen) :
    Calls Try.prog 13 #[.string s] w fun e w' => e = .returned (.tuple #[getIds (getOf (nums s)), .int .i64 (getErr (getOf (nums s)))]) ∧ Below w.heap.size w w' := by
  have f0 := (Blk.new w (zero32.map v8).toArray 26).old (Obj.cells (zero32.map v8).toArray 26)
  have f1 := Blk.new (w.alloc (Obj.cells (zero32.map v8).toArray 26)) (zero32.map v8).toArray 26
  have b2 := ((Below.refl w.heap.size w).alloc (by simp) (Obj.cells (zero32.map v8).toArray 26)).alloc (by simp) (Obj.cells (zero32.map v8).toArray 26)
  have s2 : ((w.alloc (Obj.cells (zero32.map v8).toArray 26)).alloc (Obj.cells (zero32.map v8).toArray 26)).heap.size = w.heap.size + 1 + 1 := by simp
  obtain ⟨bs, hbs⟩ : ∃ bs, bs = nums s := ⟨_, rfl⟩
  have hln := nums_length s
  have hbd := nums_bd s
  rw [← hbs] at hln hbd ⊢
  have HBS := Lib.hid hbs
  have HBD := Lib.hid hbd
  clear hbs hbd
  have hszz : (Try.prog.info? 26).map (fun i => i.size) = some (zero32.map v8).toArray.size := by rw [size26]; simp [zero32_length]
  by_cases hl : s.size = 64
  · have t0 : ((s.size : Int) != 64) = false := by rw [bne_eq_false_iff_eq]; omega
    go_enter Try.func13, Try.ntmps13
    go_wp2_with (first
      | (refine wpList_alloc_arr rfl 26 rfl _ info26 ?_)
      | (go_at_call 33; refine (numbers_any _).mono ?_; rintro e w3 ⟨rfl, hown3, hb3⟩))
    have f0 := f0.below hb3 (by rw [s2]; omega)
    have f1 := f1.below hb3 (by rw [s2]; simp)
    have hb4 : Below w.heap.size w w3 := b2.trans (hb3.mono (by rw [s2]; omega))
    rw [s2] at hown3
    simp only [World.size_alloc] at f1
    clear b2 hb3 s2
    go_loopw [16] (fun i wr => ∃ k : Nat, k ≤ 64 ∧ i = .int .i64 k ∧ Below w.heap.size w wr ∧ Blk wr w.heap.size (zero32.map v8) 26 ∧ Blk wr (w.heap.size + 1) ((idUpto bs k).map v8) 26 ∧ wr.ownsMap Try.prog 5 (plainElem Try.prog 5) (w.heap.size + 1 + 1) 16 (digMap 16) ∧ (∀ j, j < k → isDig (bs.getD j 0) = true)) (fun i _ => 64 - (intOf i).toNat)
    case atStart => exact ⟨0, by omega, rfl, hb4, f0, by rw [idUpto_zero]; exact f1, hown3, fun j hj => by omega⟩
    case round =>
      clear hb4 f0 f1 hown3
      obtain ⟨k, hk, rfl, hb, h0, h1, hown, hdig⟩ := hrel
      have H0 := Lib.hid h0
      have H1 := Lib.hid h1
      have HO := Lib.hid hown
      have HD := Lib.hid hdig
      clear h0 h1 hown hdig
      by_cases hlt : k < 64
      · obtain ⟨c, hc⟩ : ∃ c, c = bs.getD k 0 := ⟨_, rfl⟩
        have hcb : 0 ≤ c ∧ c ≤ 255 := by rw [hc]; exact getD_bd bs HBD.out k
        have hix := run_byte s k (by omega)
        rw [← HBS.out, ← hc] at hix
        have hkey : keyOf Try.prog 5 (v8 c) = some (.int .u8 c) := keyOf_int_mk Try.underlying5 (WalkArith.wf_u8 (by omega))
        have HKEY := Lib.hid hkey
        have HC := Lib.hid hc
        clear hkey hc
        by_cases hd : isDig c = true
        · have hhit : Maps.has (digMap 16) (.int .u8 c) = true := by unfold isDig at hd; exact hd
          obtain ⟨x, hx⟩ : ∃ x, x = (idUpto bs k).getD (k / 2) 0 := ⟨_, rfl⟩
          have c0 : wr.cell? ⟨w.heap.size + 1, k / 2, none⟩ = some (v8 x) := by
            rw [H1.out.cell, List.getElem?_map, List.getElem?_eq_getElem (by rw [idUpto_length]; omega), hx]; simp [idUpto_length, show k / 2 < 32 by omega]
          have cf : wr.frozen? ⟨w.heap.size + 1, k / 2, none⟩ = false := H1.out.free _
          have hxb : 0 ≤ x ∧ x ≤ 255 := by rw [hx]; exact getD_bd _ (idUpto_bd bs k) _
          have HX := Lib.hid hx
          have HHIT := Lib.hid hhit
          have HDG := Lib.hid hd
          clear hx hhit hd
          go_wp2_with (at_lookup; refine wpList_lookup_own_ok_int _ rfl _ _ 53 rfl 5 5 .u8 law5 Try.underlying53 Try.underlying5 (zero5 _) (w.heap.size + 1 + 1) 16 (digMap 16) rfl HO.out _ _ rfl HKEY.out ?_; intro n hat hwn; rw [HHIT.out]; have HAT := Lib.hid hat; clear hat)
          go_roundw
          case rel =>
            have hn : n = numOf c := numOf_at c n hcb HDG.out HAT.out
            refine ⟨k + 1, by omega, by go_num, hb.setCell (by simp) _, H0.out.setOther _ _ (by simp), ?_, HO.out.setCell (by simp) _, ?_⟩
            · rw [idUpto_succ bs k x n HX.out (by rw [hn, HC.out]), orv_eq]
              exact H1.out.set _ _
            · intro j hj
              by_cases e : j = k
              · subst e; rw [← HC.out]; exact HDG.out
              · exact HD.out j (by omega)
          case measure => simp [intOf]; omega
        · have hmiss : Maps.has (digMap 16) (.int .u8 c) = false := by unfold isDig at hd; simpa using hd
          have hg : getOf bs = none := by
            unfold getOf
            rw [if_neg]
            intro h
            rw [allDig_iff] at h
            have h2 := h.2 k hlt
            rw [← HC.out] at h2
            exact hd h2
          have HMISS := Lib.hid hmiss
          have HG := Lib.hid hg
          clear hmiss hg hd
          go_wp2_with (first
            | (at_lookup; refine wpList_lookup_own_ok_int _ rfl _ _ 53 rfl 5 5 .u8 law5 Try.underlying53 Try.underlying5 (zero5 _) (w.heap.size + 1 + 1) 16 (digMap 16) rfl HO.out _ _ rfl HKEY.out ?_; intro n hat hwn; rw [HMISS.out]; clear hat)
            | (refine wpList_build' rfl 26 _ rfl (zero32.map v8).toArray (by kernel_rfl) ?_)
            | (refine wpList_store_row rfl 26 _ _ rfl _ _ rfl rfl _ _ H0.out hszz rfl (one8 _) ?_))
          (try simp only [Exit.inBlock, Exit.then])
          skip
          refine bodyPost_ret (v := .tuple #[.agg (zero32.map v8).toArray, .int .i64 10]) ?_ rfl ⟨by rw [HG.out]; rfl, Below.setRow hb (by omega) _⟩
          exact results_row_tmp rfl _ _ _ _ _ _ _ _ rfl (H0.out.row _) (Try.underlying26) rfl hszz rfl
      · obtain rfl : k = 64 := by omega
        have hsz1 : (Try.prog.info? 26).map (fun i => i.size) = some ((idUpto bs 64).map v8).toArray.size := by rw [size26]; simp [idUpto_length]
        have hg : getOf bs = some (idUpto bs 64) := by
          unfold getOf
          rw [if_pos ⟨by omega, (allDig_iff bs).2 HD.out⟩]
        have HG := Lib.hid hg
        clear hg
        go_wp2_with (first
          | (refine wpList_load_row rfl 26 _ rfl _ rfl _ _ _ _ H1.out (Try.underlying26) rfl hsz1 ?_)
          | (refine wpList_store_row rfl 26 _ _ rfl _ _ rfl rfl _ _ H0.out hsz1 (by simp [zero32_length, idUpto_length]) (one8 _) ?_))
        (try simp only [Exit.inBlock, Exit.then])
        refine bodyPost_ret (v := .tuple #[.agg ((idUpto bs 64).map v8).toArray, .int .i64 0]) ?_ rfl ⟨by rw [HG.out]; rfl, Below.setRow hb (by omega) _⟩
        exact results_row_tmp rfl _ _ _ _ _ _ _ _ rfl (H0.out.row _) (Try.underlying26) rfl hsz1 rfl
  · have t0 : ((s.size : Int) != 64) = true := by rw [bne_iff_ne]; omega
    have hg : getOf bs = none := by
      unfold getOf
      rw [if_neg]
      intro h
      omega
    have HG := Lib.hid hg
    simp only [World.size_alloc] at f1
    have F0 := Lib.hid f0
    have B2 := Lib.hid b2
    clear hg f0 f1 b2 s2
    go_enter Try.func13, Try.ntmps13
    go_wp2_with (first
      | (refine wpList_alloc_arr rfl 26 rfl _ info26 ?_)
      | (refine wpList_build' rfl 26 _ rfl (zero32.map v8).toArray (by kernel_rfl) ?_)
      | (refine wpList_store_row rfl 26 _ _ rfl _ _ rfl rfl _ _ F0.out hszz rfl (one8 _) ?_))
    (try simp only [Exit.inBlock, Exit.then])
    refine bodyPost_ret (v := .tuple #[.agg (zero32.map v8).toArray, .int .i64 10]) ?_ rfl ⟨by rw [HG.out]; rfl, Below.setRow B2.out (by omega) _⟩
    exact results_row_tmp rfl _ _ _ _ _ _ _ _ rfl (F0.out.row _) (Try.underlying26) rfl hszz rfl
end Go.Proofs.Ytfafgnefibgaaaa
