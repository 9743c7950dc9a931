/-
  The fixed calls of the first stages come out true, by the kernel's reckoning.
-/
import Derived.Test.YtcplkbflpopoaaaGreatDoorEa1
import Derived.Test.YtcplkbflpopoaaaGreatDoorProg
namespace Go.Proofs.YtcplkbflpopoaaaGreatDoor
open Go Go.RowKit
set_option maxRecDepth 100000
theorem comes3 : Comes [] 400 67 := by unfold Comes; kernel_rfl
end Go.Proofs.YtcplkbflpopoaaaGreatDoor
