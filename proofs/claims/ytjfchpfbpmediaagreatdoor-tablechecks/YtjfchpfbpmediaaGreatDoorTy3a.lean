/-
  table: the law TableChecks over letters: runs where the words stay, where a key is struck out.
-/
import Derived.Test.YtjfchpfbpmediaaGreatDoorTy2
namespace Go.Proofs.YtjfchpfbpmediaaGreatDoor
open Go Go.RowKit
set_option maxRecDepth 100000 in
theorem tc_run0 : ((List.range 15).all fun c => isV true (tcRun 0 c 0 0 (Lt 15))) = true := by kernel_rfl
set_option maxRecDepth 100000 in
theorem tc_run5 : ((List.range 15).all fun c => isV true (tcRun 5 c 0 0 (Lt 15))) = true := by kernel_rfl
set_option maxRecDepth 100000 in
theorem tc_run1 : (Tbl.keys.all fun k => isV true (tcRun 1 k.1 k.2 0 (.int .i64 k.2))) = true := by kernel_rfl
end Go.Proofs.YtjfchpfbpmediaaGreatDoor
