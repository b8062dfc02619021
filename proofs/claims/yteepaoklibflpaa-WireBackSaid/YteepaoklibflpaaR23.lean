/-
  What the program's frames are asked to do, they do.
-/
import Derived.Test.YteepaoklibflpaaR18
import Derived.Test.YteepaoklibflpaaR22
namespace Go.Proofs.Yteepaoklibflpaa
section
open Go.RowKit Sha
theorem frameOK : FrameOK where
  put := fun zs n p cap w hn h => fput_any zs n p cap w hn h
  split := fun zs n p cap w hn h hs => fsplit_any zs n p cap w hn h hs
end
end Go.Proofs.Yteepaoklibflpaa
