/-
  What the program's frames are asked to do, they do.
-/
import Derived.Test.YtfjopbgnijfajaaFrR
import Derived.Test.YtfjopbgnijfajaaFrH
namespace Go.Proofs.Ytfjopbgnijfajaa
open Go.RowKit Sha
theorem frameOK : FrameOK :=
  ⟨fun zs n p cap w hn h => fput_any zs n p cap w hn h, fun l p n c w h hn => fjoins_any l p n c w h hn,
   fun n w h => (fsize_any n w h).mono fun e w' ⟨he, hw⟩ => ⟨he, by rw [← hw]; exact Below.refl _ _⟩,
   fun zs n p cap w hn h hs => fsplit_any zs n p cap w hn h hs⟩
end Go.Proofs.Ytfjopbgnijfajaa
