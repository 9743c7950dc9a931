/-
  The fixed calls of the first stages come out true, by the kernel's reckoning.
-/
import Derived.Test.YtgfekmpgnofhbaaGreatDoorEa1
import Derived.Test.YtgfekmpgnofhbaaGreatDoorProg
namespace Go.Proofs.YtgfekmpgnofhbaaGreatDoor
open Go Go.RowKit
set_option maxRecDepth 100000
theorem comes4 : Comes [(20, fixP (.bool true))] 400 8 := by unfold Comes; kernel_rfl
end Go.Proofs.YtgfekmpgnofhbaaGreatDoor
