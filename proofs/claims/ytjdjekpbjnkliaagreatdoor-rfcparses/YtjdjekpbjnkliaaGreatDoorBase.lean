/-
  What all laws of the seat share: the listed table gives Months; the witness's world; the row's last step.
-/
import Derived.Test.YtjdjekpbjnkliaaGreatDoorCards
import Derived.Test.YtjdjekpbjnkliaaGreatDoorTie
import Derived.Test.YtjdjekpbjnkliaaGreatDoorW4
import Derived.ProofKit
import Derived.OpenShut
import Derived.Deep.DeepHandedRow
import Derived.Lib.LaidTab
namespace Go.Proofs.YtjdjekpbjnkliaaGreatDoor
open Go.ChangeShapes Go.WideShapes Go.ChangeAt Go.RowKit

theorem own : ownKnob Tryz.prog.godebug = none := by kernel_rfl
theorem gMonths : Tryz.prog.globalNamed "kalends/civil.months" = some 6 := by kernel_rfl
theorem gMonthsType : (Tryz.prog.globals[6]?).map (·.type) = some 185 := by kernel_rfl
theorem cellsTable : Tryz.prog.cellsOf 185 = 12 := by kernel_rfl
theorem cellsInt : Tryz.prog.cellsOf 3 = 1 := by kernel_rfl

end Go.Proofs.YtjdjekpbjnkliaaGreatDoor
