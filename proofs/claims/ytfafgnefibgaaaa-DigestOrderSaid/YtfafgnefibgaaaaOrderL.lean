/-
  PROVED: for whatever three digests the law DigestOrder answers true and leaves its arguments as they were.
  CONDITIONS: none beyond the given statement's own (the three arguments are read as data by the row; no premise is added).
-/
import Derived.Test.YtfafgnefibgaaaaLaw1O
import Derived.Test.YtfafgnefibgaaaaLaw1P
import Derived.Test.YtfafgnefibgaaaaLaw1Q
import Derived.Test.YtfafgnefibgaaaaLaw1R
import Derived.Test.YtfafgnefibgaaaaOpen
import Derived.Test.YtfafgnefibgaaaaPost
namespace Go.Proofs.Ytfafgnefibgaaaa
set_option linter.unusedSimpArgs false
set_option linter.unusedVariables false
open Go.ChangeShapes Go.WideShapes Go.ChangeAt Go.RowKit Sha
theorem order_any (xs ys zs : List Int) (w : World) (hx : xs.length = 32) (hy : ys.length = 32) (hz : zs.length = 32) (bx : Bytes xs) (by_ : Bytes ys) (bz : Bytes zs) :
    Calls Try.prog 7 #[.agg (xs.map v8).toArray, .agg (ys.map v8).toArray, .agg (zs.map v8).toArray] w fun e w' => e = .returned (.bool true) ∧ Below w.heap.size w w' := by
  by_cases he : xs = ys
  · exact order_d xs ys zs w hx hy hz bx by_ bz (by rw [he]; exact less_irrefl ys) (by rw [he]; exact less_irrefl ys) (by simpa using he)
  · have hd : decide (xs = ys) = false := by simpa using he
    rcases less_total xs ys (by rw [hx, hy]) he with hp | hq
    · have hw := weigh_le xs ys (by rw [hx, hy]) bx by_ hp
      cases hr : less ys zs with
      | false => exact order_p0 xs ys zs w hx hy hz bx by_ bz hp (less_asymm _ _ hp) hd hw hr
      | true => exact order_p1 xs ys zs w hx hy hz bx by_ bz hp (less_asymm _ _ hp) hd hw hr (less_trans _ _ _ hp hr)
    · exact order_q xs ys zs w hx hy hz bx by_ bz (less_asymm _ _ hq) hq hd
theorem Try.own : ownKnob Try.prog.godebug = none := by kernel_rfl
theorem Try.laidOut : laidOutB Try.prog = true := by kernel_rfl
theorem cells26 : Try.prog.cellsOf 26 = 32 := by kernel_rfl
theorem cells5 : Try.prog.cellsOf 5 = 1 := by kernel_rfl
theorem read26 : Try.prog.readableRec 26 = true ∧ 26 < Try.prog.types.size := ⟨by kernel_rfl, by decide +kernel⟩
theorem read_order : ∀ t ∈ Try.f7.params.toList, Try.prog.readableRec t = true ∧ t < Try.prog.types.size := by
  rw [Try.params7]
  intro t ht
  simp at ht
  subst ht
  exact read26
set_option maxRecDepth 100000 in
theorem order_lifted (os : Os) (started : os.Started) (H : Type) (enc : TypeId × Value → H) :
    ReturnsInHanded {} Try.checked os 7 .any (Rows.digestOrderSpec.pre6 enc Try.prog Try.f7 Rows.digestOrderRow.domain false) (Rows.digestOrderSpec.post enc Try.prog Try.f7 false true false false) := by
  refine returnsInHanded_of_change (C := Try.checked) Try.own started (by kernel_rfl) Try.func7
    (ChangeSpec.witness6 (enc := enc) (C := Try.checked) false ⟨#[], #[.agg (Array.replicate 32 (.int .u8 0)), .agg (Array.replicate 32 (.int .u8 0)), .agg (Array.replicate 32 (.int .u8 0))], []⟩ 8 (by kernel_rfl) (by kernel_rfl) (by kernel_rfl) (by kernel_rfl)) ?_
  intro W base args ds gs before hval0 hW _ _
  have hval : ∀ (j : Nat) t v, Try.f7.params[j]? = some t → args[j]? = some v → Value.okWide Try.prog W .any base t v := hval0
  have hW' := hW
  obtain ⟨p, q, hA0, hV, rfl, hfz, hnd⟩ := hW
  have hA : DataW.TrodAll enc Try.prog W 0 (fun _ => true) true Try.f7.params.toList args.toList ds p := hA0
  rw [Try.params7] at hA hval
  obtain ⟨v0, vs0, d0, ds0, p0, q0, hargs, rfl, rfl, h0, r0⟩ := trodAll_cons hA
  obtain ⟨v1, vs1, d1, ds1, p1, q1, rfl, rfl, rfl, h1, r1⟩ := trodAll_cons r0
  obtain ⟨v2, vs2, d2, ds2, p2, q2, rfl, rfl, rfl, h2, r2⟩ := trodAll_cons r1
  obtain ⟨rfl, rfl, rfl⟩ := trodAll_nil r2
  obtain rfl : args = #[v0, v1, v2] := by cases args; simp_all
  obtain ⟨rfl, rfl⟩ := trodVars_none hV
  obtain ⟨xs, rfl, lx, bx, rfl, rfl⟩ := open_bytes Try.underlying26 Try.underlying5 cells5 cells26 (hval 0 26 v0 rfl rfl) h0
  obtain ⟨ys, rfl, ly, by_, rfl, rfl⟩ := open_bytes Try.underlying26 Try.underlying5 cells5 cells26 (hval 1 26 v1 rfl rfl) h1
  obtain ⟨zs, rfl, lz, bz, rfl, rfl⟩ := open_bytes Try.underlying26 Try.underlying5 cells5 cells26 (hval 2 26 v2 rfl rfl) h2
  clear hA0 hval0
  refine (order_any xs ys zs W lx ly lz bx by_ bz).mono fun e W' ⟨he, hb⟩ => ?_
  subst he
  exact ⟨_, rfl, law_post hW' rfl rfl rfl Try.underlying4 Try.laidOut read_order hb⟩
theorem order_holds : Rows.DigestOrderSaid :=
  OpenClaim.holds_of_wide 7 Try.f7 rfl rfl rfl rfl rfl rfl rfl ⟨rfl, rfl, rfl, rfl, rfl⟩ rfl rfl rfl rfl rfl (by kernel_rfl) Try.func7 (by kernel_rfl)
    (of_decide_eq_true (by kernel_rfl)) (by unfold Func.isWrapper; first | (rw [if_pos (by decide +kernel)]; kernel_rfl) | (rw [if_neg (by decide +kernel)]; exact ⟨rfl, rfl⟩))
    (fun os started H enc _ => order_lifted os started H enc)
end Go.Proofs.Ytfafgnefibgaaaa
