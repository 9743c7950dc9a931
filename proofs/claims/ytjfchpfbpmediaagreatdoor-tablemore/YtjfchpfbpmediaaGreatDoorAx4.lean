/-
  The fixed calls of the first stages come out true, by the kernel's reckoning.
-/
import Derived.Test.YtjfchpfbpmediaaGreatDoorEa1
import Derived.Test.YtjfchpfbpmediaaGreatDoorProg
namespace Go.Proofs.YtjfchpfbpmediaaGreatDoor
open Go Go.RowKit
set_option maxRecDepth 100000
theorem comes4 : Comes [(47, fixP (.bool true))] 400 36 := by unfold Comes; kernel_rfl
end Go.Proofs.YtjfchpfbpmediaaGreatDoor
