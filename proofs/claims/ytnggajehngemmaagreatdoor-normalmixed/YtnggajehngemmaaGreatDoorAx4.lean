/-
  The fixed calls of the first stages come out true, by the kernel's reckoning.
-/
import Derived.Test.YtnggajehngemmaaGreatDoorEa1
import Derived.Test.YtnggajehngemmaaGreatDoorProg
namespace Go.Proofs.YtnggajehngemmaaGreatDoor
open Go Go.RowKit
set_option maxRecDepth 100000
theorem comes4 : Comes [(22, fixP (.bool true))] 400 7 := by unfold Comes; kernel_rfl
end Go.Proofs.YtnggajehngemmaaGreatDoor
