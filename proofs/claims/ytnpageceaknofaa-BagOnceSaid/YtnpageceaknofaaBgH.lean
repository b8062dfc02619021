/-
  Bags over rings: what both kinds share.
-/
import Derived.Test.YtnpageceaknofaaRin
import Derived.Test.YtnpageceaknofaaIter
import Derived.Test.YtnpageceaknofaaTail
import Derived.Test.YtnpageceaknofaaBgA
namespace Go.Proofs.Ytnpageceaknofaa
set_option linter.unusedSimpArgs false
set_option linter.unusedVariables false
open Go.RowKit Go.Shelf Sha Rin
/-- The cells of a bag's header. -/
def hdr (b m : Nat) (p : Option Addr) (c f n : Nat) : List Value := [optr b, .int .i64 m, .slice p c c, .int .i64 f, .int .i64 n]
def ringFp (b : Nat) (p : Option Addr) : List Nat := b :: (p.map (·.block)).toList
theorem ringFp_mem (b : Nat) (p : Option Addr) : b ∈ ringFp b p := by simp [ringFp]
theorem ownFrom_touch {β : Type} {fp : List Nat} {w : World} {B : Nat} (hB : w.heap.size ≤ B) : OwnFrom B (fun (_ : β) W => Touch fp w W) := fun s X Y row hs hg hr =>
  ⟨hg.os.trans hs.os, hg.tape.trans hs.tape, hg.output.trans hs.output, Nat.le_trans hs.size hg.size, fun k hk hn => (hg.block k (Nat.lt_of_lt_of_le hk hs.size) fun e => by have := (hr k e.symm).1; omega).trans (hs.block k hk hn)⟩
theorem blk_own {β : Type} (B g : Nat) (t : TypeId) (f : β → List Value) : OwnFrom B (fun s W => Blk W g (f s) t) := fun s X Y row hs hg hr => by
  refine (hg.block g hs.lt fun e => ?_).trans hs
  obtain ⟨_, o, ho, hc⟩ := hr g e.symm
  rw [show X.heap[g]? = _ from hs] at ho; cases ho; cases hc
end Go.Proofs.Ytnpageceaknofaa
