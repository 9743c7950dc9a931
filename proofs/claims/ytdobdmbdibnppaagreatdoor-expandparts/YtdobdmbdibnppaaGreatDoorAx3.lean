/-
  The fixed calls of the first stages come out true, by the kernel's reckoning.
-/
import Derived.Test.YtdobdmbdibnppaaGreatDoorEa1
import Derived.Test.YtdobdmbdibnppaaGreatDoorProg
namespace Go.Proofs.YtdobdmbdibnppaaGreatDoor
open Go Go.RowKit
set_option maxRecDepth 100000
theorem comes3 : Comes [] 400 16 := by unfold Comes; kernel_rfl
end Go.Proofs.YtdobdmbdibnppaaGreatDoor
