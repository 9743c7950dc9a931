/-
  table: the law TableMore over letters: runs.
-/
import Derived.Test.YtjfchpfbpmediaaGreatDoorTy6
namespace Go.Proofs.YtjfchpfbpmediaaGreatDoor
open Go Go.RowKit
set_option maxRecDepth 100000 in
theorem tm_run4 : tmAll 0 12 [(5, 0), (6, 0), (7, 0), (8, 0), (9, 0), (10, 0), (11, 0), (12, 0)] = true := by kernel_rfl
set_option maxRecDepth 100000 in
theorem tm_run9 : tmAll 0 12 [(13, 4)] = true := by kernel_rfl
set_option maxRecDepth 100000 in
theorem tm_run17 : tmAll 0 12 [(14, 0), (14, 1)] = true := by kernel_rfl
end Go.Proofs.YtjfchpfbpmediaaGreatDoor
