/-
  The fixed calls of the first stages come out true, by the kernel's reckoning.
-/
import Derived.Test.YtanonhannngkmaaGreatDoorEa1
import Derived.Test.YtanonhannngkmaaGreatDoorProg
namespace Go.Proofs.YtanonhannngkmaaGreatDoor
open Go Go.RowKit
set_option maxRecDepth 100000
theorem comes4 : Comes [(57, fixP (.bool true))] 400 48 := by unfold Comes; kernel_rfl
end Go.Proofs.YtanonhannngkmaaGreatDoor
