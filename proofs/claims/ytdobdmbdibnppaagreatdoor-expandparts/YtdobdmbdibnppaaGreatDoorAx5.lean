/-
  The fixed calls of the first stages come out true, by the kernel's reckoning.
-/
import Derived.Test.YtdobdmbdibnppaaGreatDoorEa1
import Derived.Test.YtdobdmbdibnppaaGreatDoorProg
namespace Go.Proofs.YtdobdmbdibnppaaGreatDoor
open Go Go.RowKit
set_option maxRecDepth 100000
theorem comes5 : Comes [(7, fixP (.bool true))] 400 4 := by unfold Comes; kernel_rfl
end Go.Proofs.YtdobdmbdibnppaaGreatDoor
