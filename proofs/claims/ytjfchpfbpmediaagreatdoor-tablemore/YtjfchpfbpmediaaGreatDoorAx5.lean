/-
  The fixed calls of the first stages come out true, by the kernel's reckoning.
-/
import Derived.Test.YtjfchpfbpmediaaGreatDoorEa1
import Derived.Test.YtjfchpfbpmediaaGreatDoorProg
namespace Go.Proofs.YtjfchpfbpmediaaGreatDoor
open Go Go.RowKit
set_option maxRecDepth 100000
theorem comes5 : Comes [(36, fixP (.bool true))] 400 30 := by unfold Comes; kernel_rfl
end Go.Proofs.YtjfchpfbpmediaaGreatDoor
