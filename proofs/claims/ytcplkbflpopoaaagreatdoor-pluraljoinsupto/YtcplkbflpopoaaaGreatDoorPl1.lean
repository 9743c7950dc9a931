/-
  Plain: a number's last digits, by its decimal text and by division.
-/
import Derived.Lib.ItoaNum
import Derived.Lib.Strings
namespace Go.Proofs.YtcplkbflpopoaaaGreatDoor.Plu
open Go.Lib
end Go.Proofs.YtcplkbflpopoaaaGreatDoor.Plu
