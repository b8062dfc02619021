/-
  PROVED: for arguments of bulk at most 1048576 the law FactTwice answers true and leaves its arguments as they were.
  CONDITIONS: none beyond the given statement's own.
-/
import Derived.Test.YtokpabkcaofahaaGreatPt24
import Derived.ChangeMaps5
import Derived.JoinedCond
namespace Go.Proofs.YtokpabkcaofahaaGreat
set_option linter.unusedSimpArgs false
set_option linter.unusedVariables false
open Go.ChangeShapes Go.WideShapes Go.ChangeAt Go.RowKit Sha
theorem facts_few {H : Type} {d : DataW H} {ds : List (DataW H)} {l : List Fct.Fac} (hk : Rows.uptoBulkAll (d :: ds) ≤ 1048576) (h : l.length ≤ Rows.uptoBulk d ∧ ∀ y ∈ l, y.B.length ≤ Rows.uptoBulk d) : l.length ≤ listMost ∧ ∀ y ∈ l, y.B.length ≤ dataMost := by
  have h0 : Rows.uptoBulk d ≤ 1048576 := by simp only [Rows.uptoBulkAll] at hk; omega
  refine ⟨?_, fun y hy => ?_⟩
  · have : listMost = 2000000 := rfl
    omega
  · have : dataMost = 1000000000000 := rfl
    have := h.2 y hy
    omega
theorem read_factTwice : ∀ t ∈ Tryz.f9.params.toList, Tryz.prog.readableRec t = true ∧ t < Tryz.prog.types.size := by
  rw [Tryz.params9]
  intro t ht
  simp at ht
  rcases ht with rfl | rfl
  · exact ⟨by kernel_rfl, by decide +kernel⟩
  · exact ⟨by kernel_rfl, by decide +kernel⟩
set_option maxRecDepth 100000 in
theorem factTwice_lifted (os : Os) (started : os.Started) (H : Type) (enc : TypeId × Value → H) (F : Stop.Interp) :
    ReturnsInHanded {} Tryz.checked os 9 .any ((Rows.OpenSpec.upto Rows.factTwiceSpec).pre6 enc Tryz.prog Tryz.f9 Rows.factTwiceUptoRow.domain false) (((Rows.OpenSpec.upto Rows.factTwiceSpec).at F).post enc Tryz.prog Tryz.f9 false true false false) := by
  refine returnsInHanded_of_cond (C := Tryz.checked) (s := Rows.OpenSpec.upto Rows.factTwiceSpec) (k := Rows.uptoSmall) rfl Tryz.own started (by kernel_rfl) Tryz.func9
    (OpenSpec.witness (enc := enc) (C := Tryz.checked) (s := Rows.OpenSpec.upto Rows.factTwiceSpec) (k := Rows.uptoSmall) rfl false ⟨#[], #[.slice none 0 0, .agg (#[.int .i64 0, .int .i64 0, .int .i64 0, .int .i64 0, .int .i64 0] ++ Array.replicate 32 (.int .u8 0) ++ #[.slice none 0 0])], []⟩ 8 (by kernel_rfl) (by kernel_rfl) (by kernel_rfl)
      (x := ([.nil, .agg [.lit (.int .i64 0), .lit (.int .i64 0), .lit (.int .i64 0), .agg [.lit (.int .i64 0), .lit (.int .i64 0)], .agg (List.replicate 32 (.lit (.int .u8 0))), .nil]], [], [])) (by kernel_rfl) rfl (by kernel_rfl)) ?_
  intro W base args ds gs before hval0 hW _ hk _
  have hval : ∀ (j : Nat) t v, Tryz.f9.params[j]? = some t → args[j]? = some v → Value.okWide Tryz.prog W .any base t v := hval0
  have hW' := hW
  obtain ⟨p, q, hA0, hV, rfl, hfz, hnd⟩ := hW
  have hA : DataW.TrodAll enc Tryz.prog W 0 (fun _ => true) true Tryz.f9.params.toList args.toList ds p := hA0
  rw [Tryz.params9] at hA hval
  obtain ⟨v0, vs0, d0, ds0, p0, q0, hargs, rfl, rfl, h0, r0⟩ := trodAll_cons hA
  obtain ⟨v1, vs1, d1, ds1, p1, q1, rfl, rfl, rfl, h1, r1⟩ := trodAll_cons r0
  obtain ⟨rfl, rfl, rfl⟩ := trodAll_nil r1
  obtain rfl : args = #[v0, v1] := by cases args; simp_all
  obtain ⟨rfl, rfl⟩ := trodVars_none hV
  obtain ⟨q0, x0, n0, c0, rfl, t0, e0⟩ := open_facts_n (hval 0 30 v0 rfl rfl) h0
  obtain ⟨x1, q1, c1, rfl, t1⟩ := open_fact1 (hval 1 28 v1 rfl rfl) h1
  clear hA0 hval0
  have big := facts_few (of_decide_eq_true hk) e0
  refine (factTwice_law x0 n0 q0 c0 x1 q1 c1 W t0 t1 big).mono fun e W' ⟨he, hb⟩ => ?_
  subst he
  exact ⟨_, rfl, law_post hW' rfl rfl rfl Tryz.underlying4 Tryz.laidOut read_factTwice hb⟩
theorem factTwice_holds : Rows.FactTwiceUptoSaid :=
  OpenClaim.holds_of_cond 9 Tryz.f9 rfl rfl rfl rfl rfl rfl rfl ⟨rfl, rfl, rfl, rfl, rfl⟩ rfl rfl rfl rfl rfl (by kernel_rfl) Tryz.func9 (by kernel_rfl)
    (of_decide_eq_true (by kernel_rfl)) (by unfold Func.isWrapper; first | (rw [if_pos (by decide +kernel)]; kernel_rfl) | (rw [if_neg (by decide +kernel)]; exact ⟨rfl, rfl⟩))
    (fun os started H enc _ F => factTwice_lifted os started H enc F)
end Go.Proofs.YtokpabkcaofahaaGreat
