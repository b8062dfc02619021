/-
  The program's disks do what disks are asked to do, and disks that nobody made.
-/
import Derived.Test.YtooljhdfmfkpeaaDkZg
import Derived.Test.YtooljhdfmfkpeaaDkZn
namespace Go.Proofs.Ytooljhdfmfkpeaa
set_option linter.unusedSimpArgs false
set_option linter.unusedVariables false
open Go.RowKit Sha Dsk
theorem ProgDisk.ok {w : World} {b : Nat} {fp : List Nat} {s : DState} (h : ProgDisk w b fp s) : Ok s := by
  obtain ⟨_, _, _, h⟩ := h
  exact h.ok
theorem disksOK : DisksOK ProgDisk where
  ok := {
    held := progHeldD
    ok := fun h => h.ok
    new := fun n w hn => pnew_any n w hn
    append := fun b fp s zs n p cap w h hs hn hm hz ha => pappend_any b fp s zs n p cap w h hs hn hm hz ha
    sync := fun b fp s w h hs => psync_any b fp s w h hs
    next := fun b fp s zs n p cap w h hs hn hm hz ha => pnext_any b fp s zs n p cap w h hs hn hm hz ha
    switch := fun b fp s w h hs => pswitch_any b fp s w h hs
    read := fun b fp s w h => pread_any b fp s w h
    room := fun b fp s n w h hn => proom_any b fp s n w h hn
    fuse := fun b fp s n w h hn => pfuse_any b fp s n w h hn
    crash := fun b fp s n w h hn => pcrash_any b fp s n w h hn
    wipe := fun b fp s w h => pwipe_any b fp s w h }
  sees := {
    len := fun b fp s w h => plen_any b fp s w h
    firm := fun b fp s w h => pfirm_any b fp s w h
    up := fun b fp s w h => pup_any b fp s w h
    steps := fun b fp s w h _ => psteps_any b fp s w h }
  copy := fun b fp s w h => pcopy_any b fp s w h
end Go.Proofs.Ytooljhdfmfkpeaa
