/-
  The fixed calls of the first stages come out true, by the kernel's reckoning.
-/
import Derived.Test.YtanonhannngkmaaGreatDoorEa1
import Derived.Test.YtanonhannngkmaaGreatDoorProg
namespace Go.Proofs.YtanonhannngkmaaGreatDoor
open Go Go.RowKit
set_option maxRecDepth 100000
theorem comes6 : Comes [(41, fixP (.bool true))] 400 33 := by unfold Comes; kernel_rfl
theorem comes7 : Comes [(33, fixP (.bool true))] 400 24 := by unfold Comes; kernel_rfl
end Go.Proofs.YtanonhannngkmaaGreatDoor
