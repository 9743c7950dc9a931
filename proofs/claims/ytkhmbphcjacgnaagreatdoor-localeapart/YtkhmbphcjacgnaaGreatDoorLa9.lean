/-
  The law LocaleApart: its runs, language 3, months and weekdays.
-/
import Derived.Test.YtkhmbphcjacgnaaGreatDoorLa1
namespace Go.Proofs.YtkhmbphcjacgnaaGreatDoor
open Go Go.RowKit
set_option maxRecDepth 100000 in
theorem la_run3b : ((([13, 14] : List Nat)).all fun c => isBo true (laRun 3 c)) = true := by kernel_rfl
end Go.Proofs.YtkhmbphcjacgnaaGreatDoor
