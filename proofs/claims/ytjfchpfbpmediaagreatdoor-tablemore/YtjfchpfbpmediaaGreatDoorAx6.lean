/-
  The fixed calls of the first stages come out true, by the kernel's reckoning.
-/
import Derived.Test.YtjfchpfbpmediaaGreatDoorEa1
import Derived.Test.YtjfchpfbpmediaaGreatDoorProg
namespace Go.Proofs.YtjfchpfbpmediaaGreatDoor
open Go Go.RowKit
set_option maxRecDepth 100000
theorem comes6 : Comes [(30, fixP (.bool true))] 400 23 := by unfold Comes; kernel_rfl
theorem comes7 : Comes [(23, fixP (.bool true))] 400 15 := by unfold Comes; kernel_rfl
end Go.Proofs.YtjfchpfbpmediaaGreatDoor
