/-
  The fixed calls of the first stages come out true, by the kernel's reckoning.
-/
import Derived.Test.YtkcolbeemmnolaaGreatDoorEa1
import Derived.Test.YtkcolbeemmnolaaGreatDoorProg
namespace Go.Proofs.YtkcolbeemmnolaaGreatDoor
open Go Go.RowKit
set_option maxRecDepth 100000
theorem comes3 : Comes [] 400 27 := by unfold Comes; kernel_rfl
end Go.Proofs.YtkcolbeemmnolaaGreatDoor
