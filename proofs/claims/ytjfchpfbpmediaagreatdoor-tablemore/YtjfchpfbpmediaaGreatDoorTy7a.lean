/-
  table: the law TableMore over letters: runs.
-/
import Derived.Test.YtjfchpfbpmediaaGreatDoorTy6
namespace Go.Proofs.YtjfchpfbpmediaaGreatDoor
open Go Go.RowKit
set_option maxRecDepth 100000 in
theorem tm_run1 : tmAll 0 12 [(2, 0), (2, 1), (2, 2), (2, 3)] = true := by kernel_rfl
set_option maxRecDepth 100000 in
theorem tm_run12 : tmAll 0 12 [(13, 7)] = true := by kernel_rfl
end Go.Proofs.YtjfchpfbpmediaaGreatDoor
