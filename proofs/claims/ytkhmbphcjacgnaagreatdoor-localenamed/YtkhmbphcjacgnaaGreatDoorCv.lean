/-
  Numbers by another kind; the same number twice; calls of three things.
-/
import Derived.Test.YtkhmbphcjacgnaaGreatDoorEvT
namespace Go.Proofs.YtkhmbphcjacgnaaGreatDoor
open Go Go.RowKit
end Go.Proofs.YtkhmbphcjacgnaaGreatDoor
