/-
  table: the law TableChecks over letters: runs with a word more.
-/
import Derived.Test.YtjfchpfbpmediaaGreatDoorTy2
namespace Go.Proofs.YtjfchpfbpmediaaGreatDoor
open Go Go.RowKit
set_option maxRecDepth 100000 in
theorem tc_run3 : (Tbl.keys.all fun k => isV true (tcRun 3 k.1 k.2 0 (.int .i64 k.2))) = true := by kernel_rfl
end Go.Proofs.YtjfchpfbpmediaaGreatDoor
