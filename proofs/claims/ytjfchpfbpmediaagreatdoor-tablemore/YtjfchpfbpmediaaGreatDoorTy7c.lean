/-
  table: the law TableMore over letters: runs.
-/
import Derived.Test.YtjfchpfbpmediaaGreatDoorTy6
namespace Go.Proofs.YtjfchpfbpmediaaGreatDoor
open Go Go.RowKit
set_option maxRecDepth 100000 in
theorem tm_run3 : tmAll 0 12 [(4, 0), (4, 1), (4, 2), (4, 3)] = true := by kernel_rfl
set_option maxRecDepth 100000 in
theorem tm_run14 : tmAll 0 12 [(13, 9)] = true := by kernel_rfl
end Go.Proofs.YtjfchpfbpmediaaGreatDoor
