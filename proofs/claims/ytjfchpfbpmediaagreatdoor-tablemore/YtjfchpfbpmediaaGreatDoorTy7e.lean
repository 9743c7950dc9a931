/-
  table: the law TableMore over letters: runs.
-/
import Derived.Test.YtjfchpfbpmediaaGreatDoorTy6
namespace Go.Proofs.YtjfchpfbpmediaaGreatDoor
open Go Go.RowKit
set_option maxRecDepth 100000 in
theorem tm_run10 : tmAll 0 12 [(13, 5)] = true := by kernel_rfl
set_option maxRecDepth 100000 in
theorem tm_run18 : tmAll 0 12 [(14, 2), (14, 3)] = true := by kernel_rfl
set_option maxRecDepth 100000 in
theorem tm_run20 : tmAll 0 12 [(14, 6)] = true := by kernel_rfl
end Go.Proofs.YtjfchpfbpmediaaGreatDoor
