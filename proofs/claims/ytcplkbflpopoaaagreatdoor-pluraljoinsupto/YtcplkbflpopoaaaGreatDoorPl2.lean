/-
  Plain: ordinals.
-/
import Derived.Test.YtcplkbflpopoaaaGreatDoorPl1
namespace Go.Proofs.YtcplkbflpopoaaaGreatDoor.Plu
open Go.Lib
end Go.Proofs.YtcplkbflpopoaaaGreatDoor.Plu
