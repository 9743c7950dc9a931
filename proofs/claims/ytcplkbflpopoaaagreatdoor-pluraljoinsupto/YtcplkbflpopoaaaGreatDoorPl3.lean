/-
  Plain: a numeral read again; the digits that a text begins with.
-/
import Derived.Test.YtcplkbflpopoaaaGreatDoorPl2
import Derived.Lib.AtoiAllCases
namespace Go.Proofs.YtcplkbflpopoaaaGreatDoor.Plu
end Go.Proofs.YtcplkbflpopoaaaGreatDoor.Plu
