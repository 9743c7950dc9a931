/-
  Contracts of plural's endsInTeen, isFew, Form, over letters.
-/
import Derived.Test.YtcplkbflpopoaaaGreatDoorEvT
import Derived.Test.YtcplkbflpopoaaaGreatDoorPl1
namespace Go.Proofs.YtcplkbflpopoaaaGreatDoor
open Go Go.RowKit
end Go.Proofs.YtcplkbflpopoaaaGreatDoor
