/-
  The fixed calls of the first stages come out true, by the kernel's reckoning.
-/
import Derived.Test.YtkhmbphcjacgnaaGreatDoorEa1
import Derived.Test.YtkhmbphcjacgnaaGreatDoorProg
namespace Go.Proofs.YtkhmbphcjacgnaaGreatDoor
open Go Go.RowKit
set_option maxRecDepth 100000
theorem comes5 : Comes [(39, fixP (.bool true))] 400 32 := by unfold Comes; kernel_rfl
end Go.Proofs.YtkhmbphcjacgnaaGreatDoor
