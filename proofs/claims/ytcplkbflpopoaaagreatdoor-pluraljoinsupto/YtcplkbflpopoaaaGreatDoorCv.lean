/-
  Numbers by another kind; the same number twice; calls of three things.
-/
import Derived.Test.YtcplkbflpopoaaaGreatDoorEvT
namespace Go.Proofs.YtcplkbflpopoaaaGreatDoor
open Go Go.RowKit
end Go.Proofs.YtcplkbflpopoaaaGreatDoor
