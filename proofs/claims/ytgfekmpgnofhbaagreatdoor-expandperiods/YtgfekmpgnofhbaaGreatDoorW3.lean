/-
  Contracts of civil.padded, Day.Text and the law's digits: numbers and days as texts.
-/
import Derived.Test.YtgfekmpgnofhbaaGreatDoorW2
import Derived.Handy
import Derived.Laws.BytesArg
namespace Go.Proofs.YtgfekmpgnofhbaaGreatDoor
open Go.RowKit

end Go.Proofs.YtgfekmpgnofhbaaGreatDoor
