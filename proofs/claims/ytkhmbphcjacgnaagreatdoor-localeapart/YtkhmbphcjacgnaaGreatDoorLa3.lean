/-
  The law LocaleApart: its runs, language 1, categories of few values.
-/
import Derived.Test.YtkhmbphcjacgnaaGreatDoorLa1
namespace Go.Proofs.YtkhmbphcjacgnaaGreatDoor
open Go Go.RowKit
set_option maxRecDepth 100000 in
theorem la_run1a : ((List.range 13).all fun c => isBo true (laRun 1 c)) = true := by kernel_rfl
end Go.Proofs.YtkhmbphcjacgnaaGreatDoor
