/-
  Contract of plural's digits: how many digits a text begins with.
-/
import Derived.Test.YtcplkbflpopoaaaGreatDoorPu3
import Derived.Test.YtcplkbflpopoaaaGreatDoorPl3
import Derived.WalkLawsBesides
import Derived.Lib.SmallJoins
import Derived.Lib.Hide
namespace Go.Proofs.YtcplkbflpopoaaaGreatDoor
open Go.RowKit
open Go
end Go.Proofs.YtcplkbflpopoaaaGreatDoor
