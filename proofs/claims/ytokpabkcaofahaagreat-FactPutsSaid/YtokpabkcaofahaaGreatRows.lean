/-
  No cell of these rows narrows 'for every input' (looked for: loops, veiled, ifaces, maps, wideKeys, modest, calm, conditions, laid).
  DERIVED. THE GIVEN ROWS OF THIS SEAT. 7 by the template 'for every input the law returns true; each argument reads behind the call as it read before'; 0 by the template 'total and deterministic' (their statements: YtokpabkcaofahaaGreatTotals.lean).
  GIVEN WITH THE SEED: the statements are not yours to turn. If you find one false, say at which input.
  Laid BY PROGRAM, IN A SANDBOX (cutbox-rows.mjs): the forced cells as the released guide's own fill.sh prints them over the translation 5e2a4c777c45c3f3… (all of the seat's roots in one cut). By AI agents, Wed Nov 11 2026. No macro, syntax, notation, axiom, sorry.
-/
import Derived.Test.YtokpabkcaofahaaGreatChecked
import GoSem.Claim
import GoSem.ClaimJoined
import GoSem.ClaimMapViews
import Derived.JoinedTies
import Derived.KernelRfl
namespace Go.Proofs.YtokpabkcaofahaaGreat
/- THE CELL 'sum', in the pinned program and in every row, IS THE sha256 OF THE DUMP (.gsa) THAT YtokpabkcaofahaaGreatProg.lean LOADS. Nothing in Lean hashes anything: it is a label: what it is worth is what the hold of that sum in a sandbox is worth. -/
noncomputable def Tryz.pinned : Pinned := { name := "ytokpabkcaofahaagreat", sum := "5e2a4c777c45c3f3d9945a661c4d4b83987e9e96d727b0789edb9653ec7550b4", checked := Tryz.checked }
namespace Rows
def none {H : Type} : Left H := { results := [], args := [] }

/-- 'chartularylaw09.FactPuts': WHATEVER THE INPUT: true; the input reads as it did. -/
def factPutsSpec : ChangeSpec := { name := "factPuts", fn := fun _ => fun
  | [d] => { results := [.lit (.bool true)], args := [d] }
  | _ => none }
def factPutsRow : OpenClaim := { program := "ytokpabkcaofahaagreat", sum := "5e2a4c777c45c3f3d9945a661c4d4b83987e9e96d727b0789edb9653ec7550b4", func := "chartulary/chartularylaw09.FactPuts", spec := "factPuts", inPlace := ["slices.overlaps[chartulary/api.Blob]", "slices.overlaps[chartulary/api.Keep]", "slices.overlaps[chartulary/api.Hint]", "slices.overlaps[chartulary/api.Vote]", "slices.overlaps[chartulary/api.Decision]"], unfollowed := true, recurses := true, plainKeys := false, apart := false }
def FactPutsSaid : Prop := factPutsRow.holds Tryz.pinned (OpenSpec.ofChange factPutsSpec)

/-- ITS FALSE NEIGHBOUR: 'it returns false'. Refute it at one input. -/
def factPutsWrong : ChangeSpec := { name := "factPuts", fn := fun _ => fun
  | [d] => { results := [.lit (.bool false)], args := [d] }
  | _ => none }
def FactPutsWrongFalsely : Prop := factPutsRow.holds Tryz.pinned (OpenSpec.ofChange factPutsWrong)

/-- 'chartularylaw09.FactFolds': WHATEVER THE INPUT: true; the input reads as it did. -/
def factFoldsSpec : ChangeSpec := { name := "factFolds", fn := fun _ => fun
  | [d] => { results := [.lit (.bool true)], args := [d] }
  | _ => none }
def factFoldsRow : OpenClaim := { program := "ytokpabkcaofahaagreat", sum := "5e2a4c777c45c3f3d9945a661c4d4b83987e9e96d727b0789edb9653ec7550b4", func := "chartulary/chartularylaw09.FactFolds", spec := "factFolds", inPlace := ["slices.overlaps[chartulary/api.Blob]", "slices.overlaps[chartulary/api.Keep]", "slices.overlaps[chartulary/api.Hint]", "slices.overlaps[chartulary/api.Vote]", "slices.overlaps[chartulary/api.Decision]"], unfollowed := true, recurses := true, plainKeys := false, apart := false }
def FactFoldsSaid : Prop := factFoldsRow.holds Tryz.pinned (OpenSpec.ofChange factFoldsSpec)

/-- ITS FALSE NEIGHBOUR: 'it returns false'. Refute it at one input. -/
def factFoldsWrong : ChangeSpec := { name := "factFolds", fn := fun _ => fun
  | [d] => { results := [.lit (.bool false)], args := [d] }
  | _ => none }
def FactFoldsWrongFalsely : Prop := factFoldsRow.holds Tryz.pinned (OpenSpec.ofChange factFoldsWrong)

/-- 'chartularylaw09.FactKnown': WHATEVER THE INPUT: true; the input reads as it did. -/
def factKnownSpec : ChangeSpec := { name := "factKnown", fn := fun _ => fun
  | [] => { results := [.lit (.bool true)], args := [] }
  | _ => none }
def factKnownRow : OpenClaim := { program := "ytokpabkcaofahaagreat", sum := "5e2a4c777c45c3f3d9945a661c4d4b83987e9e96d727b0789edb9653ec7550b4", func := "chartulary/chartularylaw09.FactKnown", spec := "factKnown", inPlace := ["slices.overlaps[chartulary/api.Blob]", "slices.overlaps[chartulary/api.Keep]", "slices.overlaps[chartulary/api.Hint]", "slices.overlaps[chartulary/api.Vote]", "slices.overlaps[chartulary/api.Decision]"], unfollowed := true, recurses := true, plainKeys := false, apart := false }
def FactKnownSaid : Prop := factKnownRow.holds Tryz.pinned (OpenSpec.ofChange factKnownSpec)

/-- ITS FALSE NEIGHBOUR: 'it returns false'. Refute it at one input. -/
def factKnownWrong : ChangeSpec := { name := "factKnown", fn := fun _ => fun
  | [] => { results := [.lit (.bool false)], args := [] }
  | _ => none }
def FactKnownWrongFalsely : Prop := factKnownRow.holds Tryz.pinned (OpenSpec.ofChange factKnownWrong)

/-- 'chartularylaw09.FactBack': WHATEVER THE INPUT: true; the input reads as it did. -/
def factBackSpec : ChangeSpec := { name := "factBack", fn := fun _ => fun
  | [d1, d2] => { results := [.lit (.bool true)], args := [d1, d2] }
  | _ => none }
def factBackRow : OpenClaim := { program := "ytokpabkcaofahaagreat", sum := "5e2a4c777c45c3f3d9945a661c4d4b83987e9e96d727b0789edb9653ec7550b4", func := "chartulary/chartularylaw09.FactBack", spec := "factBack", inPlace := ["slices.overlaps[chartulary/api.Blob]", "slices.overlaps[chartulary/api.Keep]", "slices.overlaps[chartulary/api.Hint]", "slices.overlaps[chartulary/api.Vote]", "slices.overlaps[chartulary/api.Decision]"], unfollowed := true, recurses := true, plainKeys := false, apart := false }
def FactBackSaid : Prop := factBackRow.holds Tryz.pinned (OpenSpec.ofChange factBackSpec)

/-- ITS FALSE NEIGHBOUR: 'it returns false'. Refute it at one input. -/
def factBackWrong : ChangeSpec := { name := "factBack", fn := fun _ => fun
  | [d1, d2] => { results := [.lit (.bool false)], args := [d1, d2] }
  | _ => none }
def FactBackWrongFalsely : Prop := factBackRow.holds Tryz.pinned (OpenSpec.ofChange factBackWrong)

/-- 'chartularylaw09.FactShort': WHATEVER THE INPUT: true; the input reads as it did. -/
def factShortSpec : ChangeSpec := { name := "factShort", fn := fun _ => fun
  | [d] => { results := [.lit (.bool true)], args := [d] }
  | _ => none }
def factShortRow : OpenClaim := { program := "ytokpabkcaofahaagreat", sum := "5e2a4c777c45c3f3d9945a661c4d4b83987e9e96d727b0789edb9653ec7550b4", func := "chartulary/chartularylaw09.FactShort", spec := "factShort", inPlace := ["slices.overlaps[chartulary/api.Blob]", "slices.overlaps[chartulary/api.Keep]", "slices.overlaps[chartulary/api.Hint]", "slices.overlaps[chartulary/api.Vote]", "slices.overlaps[chartulary/api.Decision]"], unfollowed := true, recurses := true, plainKeys := false, apart := false }
def FactShortSaid : Prop := factShortRow.holds Tryz.pinned (OpenSpec.ofChange factShortSpec)

/-- ITS FALSE NEIGHBOUR: 'it returns false'. Refute it at one input. -/
def factShortWrong : ChangeSpec := { name := "factShort", fn := fun _ => fun
  | [d] => { results := [.lit (.bool false)], args := [d] }
  | _ => none }
def FactShortWrongFalsely : Prop := factShortRow.holds Tryz.pinned (OpenSpec.ofChange factShortWrong)

/-- 'chartularylaw09.FactGrows': WHATEVER THE INPUT: true; the input reads as it did. -/
def factGrowsSpec : ChangeSpec := { name := "factGrows", fn := fun _ => fun
  | [d] => { results := [.lit (.bool true)], args := [d] }
  | _ => none }
def factGrowsRow : OpenClaim := { program := "ytokpabkcaofahaagreat", sum := "5e2a4c777c45c3f3d9945a661c4d4b83987e9e96d727b0789edb9653ec7550b4", func := "chartulary/chartularylaw09.FactGrows", spec := "factGrows", inPlace := ["slices.overlaps[chartulary/api.Blob]", "slices.overlaps[chartulary/api.Keep]", "slices.overlaps[chartulary/api.Hint]", "slices.overlaps[chartulary/api.Vote]", "slices.overlaps[chartulary/api.Decision]"], unfollowed := true, recurses := true, plainKeys := false, apart := false }
def FactGrowsSaid : Prop := factGrowsRow.holds Tryz.pinned (OpenSpec.ofChange factGrowsSpec)

/-- ITS FALSE NEIGHBOUR: 'it returns false'. Refute it at one input. -/
def factGrowsWrong : ChangeSpec := { name := "factGrows", fn := fun _ => fun
  | [d] => { results := [.lit (.bool false)], args := [d] }
  | _ => none }
def FactGrowsWrongFalsely : Prop := factGrowsRow.holds Tryz.pinned (OpenSpec.ofChange factGrowsWrong)

/-- 'chartularylaw09.FactTwice': WHATEVER THE INPUT: true; the input reads as it did. -/
def factTwiceSpec : ChangeSpec := { name := "factTwice", fn := fun _ => fun
  | [d1, d2] => { results := [.lit (.bool true)], args := [d1, d2] }
  | _ => none }
def factTwiceRow : OpenClaim := { program := "ytokpabkcaofahaagreat", sum := "5e2a4c777c45c3f3d9945a661c4d4b83987e9e96d727b0789edb9653ec7550b4", func := "chartulary/chartularylaw09.FactTwice", spec := "factTwice", inPlace := ["slices.overlaps[chartulary/api.Blob]", "slices.overlaps[chartulary/api.Keep]", "slices.overlaps[chartulary/api.Hint]", "slices.overlaps[chartulary/api.Vote]", "slices.overlaps[chartulary/api.Decision]"], unfollowed := true, recurses := true, plainKeys := false, apart := false }
def FactTwiceSaid : Prop := factTwiceRow.holds Tryz.pinned (OpenSpec.ofChange factTwiceSpec)

/-- ITS FALSE NEIGHBOUR: 'it returns false'. Refute it at one input. -/
def factTwiceWrong : ChangeSpec := { name := "factTwice", fn := fun _ => fun
  | [d1, d2] => { results := [.lit (.bool false)], args := [d1, d2] }
  | _ => none }
def FactTwiceWrongFalsely : Prop := factTwiceRow.holds Tryz.pinned (OpenSpec.ofChange factTwiceWrong)

/- THE SECOND FORM. 'bulk': how many values and letters a reading holds, each counted each time it is reached (what is shared counts as often as it is met; a slice's spare places count too). A statement '..UptoSaid' is the law's where the arguments, and the package variables that the reading takes, are together of bulk at most 1048576: NARROWER than '..Said'. Prove '..Said' where nothing that the law and all that it calls make is longer than what came in: it says more and counts as full. Else prove '..UptoSaid'. A law counts once. -/
mutual
def uptoBulk {H : Type} : DataW H → Nat
  | .lit (.string bytes) => bytes.length + 1
  | .lit _ => 1
  | .nil => 1
  | .ptr d => uptoBulk d + 1
  | .slice elems spare => uptoBulkAll elems + uptoBulkAll spare + 1
  | .agg parts => uptoBulkAll parts + 1
  | .iface _ d => uptoBulk d + 1
  | .map entries => uptoBulkEntries entries + 1
  | .held _ => 1
def uptoBulkAll {H : Type} : List (DataW H) → Nat
  | [] => 0
  | d :: r => uptoBulk d + uptoBulkAll r
def uptoBulkEntries {H : Type} : List (Lit × DataW H) → Nat
  | [] => 0
  | x :: r => uptoBulkEntry x + uptoBulkEntries r
def uptoBulkEntry {H : Type} : Lit × DataW H → Nat
  | (.string bytes, d) => bytes.length + uptoBulk d + 1
  | (_, d) => uptoBulk d + 1
 end
def uptoSmall : (H : Type) → List (DataW H) → Bool := fun _ ds => decide (uptoBulkAll ds ≤ 1048576)
def OpenSpec.upto (s : _root_.Go.ChangeSpec) : _root_.Go.OpenSpec := { _root_.Go.OpenSpec.ofChange s with cond := some uptoSmall }

/-- 'chartularylaw09.FactPuts', WHERE WHAT IT READS IS OF BULK AT MOST 1048576: true; the input reads as it did. -/
def factPutsUptoRow : OpenClaim := { program := "ytokpabkcaofahaagreat", sum := "5e2a4c777c45c3f3d9945a661c4d4b83987e9e96d727b0789edb9653ec7550b4", func := "chartulary/chartularylaw09.FactPuts", spec := "factPuts", inPlace := ["slices.overlaps[chartulary/api.Blob]", "slices.overlaps[chartulary/api.Keep]", "slices.overlaps[chartulary/api.Hint]", "slices.overlaps[chartulary/api.Vote]", "slices.overlaps[chartulary/api.Decision]"], unfollowed := true, recurses := true, plainKeys := false, apart := false, narrowed := true }
def FactPutsUptoSaid : Prop := factPutsUptoRow.holds Tryz.pinned (OpenSpec.upto factPutsSpec)

/-- 'chartularylaw09.FactFolds', WHERE WHAT IT READS IS OF BULK AT MOST 1048576: true; the input reads as it did. -/
def factFoldsUptoRow : OpenClaim := { program := "ytokpabkcaofahaagreat", sum := "5e2a4c777c45c3f3d9945a661c4d4b83987e9e96d727b0789edb9653ec7550b4", func := "chartulary/chartularylaw09.FactFolds", spec := "factFolds", inPlace := ["slices.overlaps[chartulary/api.Blob]", "slices.overlaps[chartulary/api.Keep]", "slices.overlaps[chartulary/api.Hint]", "slices.overlaps[chartulary/api.Vote]", "slices.overlaps[chartulary/api.Decision]"], unfollowed := true, recurses := true, plainKeys := false, apart := false, narrowed := true }
def FactFoldsUptoSaid : Prop := factFoldsUptoRow.holds Tryz.pinned (OpenSpec.upto factFoldsSpec)

/-- 'chartularylaw09.FactKnown', WHERE WHAT IT READS IS OF BULK AT MOST 1048576: true; the input reads as it did. -/
def factKnownUptoRow : OpenClaim := { program := "ytokpabkcaofahaagreat", sum := "5e2a4c777c45c3f3d9945a661c4d4b83987e9e96d727b0789edb9653ec7550b4", func := "chartulary/chartularylaw09.FactKnown", spec := "factKnown", inPlace := ["slices.overlaps[chartulary/api.Blob]", "slices.overlaps[chartulary/api.Keep]", "slices.overlaps[chartulary/api.Hint]", "slices.overlaps[chartulary/api.Vote]", "slices.overlaps[chartulary/api.Decision]"], unfollowed := true, recurses := true, plainKeys := false, apart := false, narrowed := true }
def FactKnownUptoSaid : Prop := factKnownUptoRow.holds Tryz.pinned (OpenSpec.upto factKnownSpec)

/-- 'chartularylaw09.FactBack', WHERE WHAT IT READS IS OF BULK AT MOST 1048576: true; the input reads as it did. -/
def factBackUptoRow : OpenClaim := { program := "ytokpabkcaofahaagreat", sum := "5e2a4c777c45c3f3d9945a661c4d4b83987e9e96d727b0789edb9653ec7550b4", func := "chartulary/chartularylaw09.FactBack", spec := "factBack", inPlace := ["slices.overlaps[chartulary/api.Blob]", "slices.overlaps[chartulary/api.Keep]", "slices.overlaps[chartulary/api.Hint]", "slices.overlaps[chartulary/api.Vote]", "slices.overlaps[chartulary/api.Decision]"], unfollowed := true, recurses := true, plainKeys := false, apart := false, narrowed := true }
def FactBackUptoSaid : Prop := factBackUptoRow.holds Tryz.pinned (OpenSpec.upto factBackSpec)

/-- 'chartularylaw09.FactShort', WHERE WHAT IT READS IS OF BULK AT MOST 1048576: true; the input reads as it did. -/
def factShortUptoRow : OpenClaim := { program := "ytokpabkcaofahaagreat", sum := "5e2a4c777c45c3f3d9945a661c4d4b83987e9e96d727b0789edb9653ec7550b4", func := "chartulary/chartularylaw09.FactShort", spec := "factShort", inPlace := ["slices.overlaps[chartulary/api.Blob]", "slices.overlaps[chartulary/api.Keep]", "slices.overlaps[chartulary/api.Hint]", "slices.overlaps[chartulary/api.Vote]", "slices.overlaps[chartulary/api.Decision]"], unfollowed := true, recurses := true, plainKeys := false, apart := false, narrowed := true }
def FactShortUptoSaid : Prop := factShortUptoRow.holds Tryz.pinned (OpenSpec.upto factShortSpec)

/-- 'chartularylaw09.FactGrows', WHERE WHAT IT READS IS OF BULK AT MOST 1048576: true; the input reads as it did. -/
def factGrowsUptoRow : OpenClaim := { program := "ytokpabkcaofahaagreat", sum := "5e2a4c777c45c3f3d9945a661c4d4b83987e9e96d727b0789edb9653ec7550b4", func := "chartulary/chartularylaw09.FactGrows", spec := "factGrows", inPlace := ["slices.overlaps[chartulary/api.Blob]", "slices.overlaps[chartulary/api.Keep]", "slices.overlaps[chartulary/api.Hint]", "slices.overlaps[chartulary/api.Vote]", "slices.overlaps[chartulary/api.Decision]"], unfollowed := true, recurses := true, plainKeys := false, apart := false, narrowed := true }
def FactGrowsUptoSaid : Prop := factGrowsUptoRow.holds Tryz.pinned (OpenSpec.upto factGrowsSpec)

/-- 'chartularylaw09.FactTwice', WHERE WHAT IT READS IS OF BULK AT MOST 1048576: true; the input reads as it did. -/
def factTwiceUptoRow : OpenClaim := { program := "ytokpabkcaofahaagreat", sum := "5e2a4c777c45c3f3d9945a661c4d4b83987e9e96d727b0789edb9653ec7550b4", func := "chartulary/chartularylaw09.FactTwice", spec := "factTwice", inPlace := ["slices.overlaps[chartulary/api.Blob]", "slices.overlaps[chartulary/api.Keep]", "slices.overlaps[chartulary/api.Hint]", "slices.overlaps[chartulary/api.Vote]", "slices.overlaps[chartulary/api.Decision]"], unfollowed := true, recurses := true, plainKeys := false, apart := false, narrowed := true }
def FactTwiceUptoSaid : Prop := factTwiceUptoRow.holds Tryz.pinned (OpenSpec.upto factTwiceSpec)

end Rows
end Go.Proofs.YtokpabkcaofahaaGreat
