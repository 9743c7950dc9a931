/-
  table: the law TableMore over letters: runs.
-/
import Derived.Test.YtjfchpfbpmediaaGreatDoorTy6
namespace Go.Proofs.YtjfchpfbpmediaaGreatDoor
open Go Go.RowKit
set_option maxRecDepth 100000 in
theorem tm_run2 : tmAll 0 12 [(3, 0), (3, 1), (3, 2), (3, 3)] = true := by kernel_rfl
set_option maxRecDepth 100000 in
theorem tm_run13 : tmAll 0 12 [(13, 8)] = true := by kernel_rfl
end Go.Proofs.YtjfchpfbpmediaaGreatDoor
