/-
  rule.Same answers whether the fields are the same.
-/
import Derived.Test.YtocpmljkmdpfkaaGreatDoorEql
namespace Go.Proofs.YtocpmljkmdpfkaaGreatDoor
open Go.RowKit
end Go.Proofs.YtocpmljkmdpfkaaGreatDoor
