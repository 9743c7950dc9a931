/-
  The fixed calls of the first stages come out true, by the kernel's reckoning.
-/
import Derived.Test.YtnggajehngemmaaGreatDoorEa1
import Derived.Test.YtnggajehngemmaaGreatDoorProg
namespace Go.Proofs.YtnggajehngemmaaGreatDoor
open Go Go.RowKit
set_option maxRecDepth 100000
theorem comes3 : Comes [] 400 22 := by unfold Comes; kernel_rfl
end Go.Proofs.YtnggajehngemmaaGreatDoor
