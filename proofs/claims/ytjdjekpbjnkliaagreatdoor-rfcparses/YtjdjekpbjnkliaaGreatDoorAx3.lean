/-
  The fixed calls of the first stages come out true, by the kernel's reckoning.
-/
import Derived.Test.YtjdjekpbjnkliaaGreatDoorEa1
import Derived.Test.YtjdjekpbjnkliaaGreatDoorProg
namespace Go.Proofs.YtjdjekpbjnkliaaGreatDoor
open Go Go.RowKit
set_option maxRecDepth 100000
theorem comes3 : Comes [] 400 5 := by unfold Comes; kernel_rfl
end Go.Proofs.YtjdjekpbjnkliaaGreatDoor
