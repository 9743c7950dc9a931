/-
  table: the law TableChecks over letters: runs with fewer words.
-/
import Derived.Test.YtjfchpfbpmediaaGreatDoorTy2
namespace Go.Proofs.YtjfchpfbpmediaaGreatDoor
open Go Go.RowKit
set_option maxRecDepth 100000 in
theorem tc_run2c : (Tbl.keys.all fun k => isV true (tcRun 2 k.1 k.2 2 (.int .i64 k.2))) = true := by kernel_rfl
set_option maxRecDepth 100000 in
theorem tc_run2d : (Tbl.keys.all fun k => isV true (tcRun 2 k.1 k.2 3 (.int .i64 k.2))) = true := by kernel_rfl
end Go.Proofs.YtjfchpfbpmediaaGreatDoor
