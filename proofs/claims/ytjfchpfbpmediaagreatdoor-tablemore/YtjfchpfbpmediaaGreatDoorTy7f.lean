/-
  table: the law TableMore over letters: runs.
-/
import Derived.Test.YtjfchpfbpmediaaGreatDoorTy6
namespace Go.Proofs.YtjfchpfbpmediaaGreatDoor
open Go Go.RowKit
set_option maxRecDepth 100000 in
theorem tm_run0 : tmAll 0 12 [(0, 0), (1, 0)] = true := by kernel_rfl
set_option maxRecDepth 100000 in
theorem tm_run11 : tmAll 0 12 [(13, 6)] = true := by kernel_rfl
set_option maxRecDepth 100000 in
theorem tm_run19 : tmAll 0 12 [(14, 4), (14, 5)] = true := by kernel_rfl
end Go.Proofs.YtjfchpfbpmediaaGreatDoor
