/-
  The fixed calls of the first stages come out true, by the kernel's reckoning.
-/
import Derived.Test.YtkcolbeemmnolaaGreatDoorEa1
import Derived.Test.YtkcolbeemmnolaaGreatDoorProg
namespace Go.Proofs.YtkcolbeemmnolaaGreatDoor
open Go Go.RowKit
set_option maxRecDepth 100000
theorem comes4 : Comes [(27, fixP (.bool true))] 400 10 := by unfold Comes; kernel_rfl
end Go.Proofs.YtkcolbeemmnolaaGreatDoor
