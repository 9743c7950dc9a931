/-
  The fixed calls of the first stages come out true, by the kernel's reckoning.
-/
import Derived.Test.YtkhmbphcjacgnaaGreatDoorEa1
import Derived.Test.YtkhmbphcjacgnaaGreatDoorProg
namespace Go.Proofs.YtkhmbphcjacgnaaGreatDoor
open Go Go.RowKit
set_option maxRecDepth 100000
theorem comes6 : Comes [(32, fixP (.bool true))] 400 27 := by unfold Comes; kernel_rfl
theorem comes7 : Comes [(27, fixP (.bool true))] 400 18 := by unfold Comes; kernel_rfl
end Go.Proofs.YtkhmbphcjacgnaaGreatDoor
