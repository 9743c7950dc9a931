/-
  table: the law TableMore over letters: runs.
-/
import Derived.Test.YtjfchpfbpmediaaGreatDoorTy6
namespace Go.Proofs.YtjfchpfbpmediaaGreatDoor
open Go Go.RowKit
set_option maxRecDepth 100000 in
theorem tm_run6 : tmAll 0 12 [(13, 1)] = true := by kernel_rfl
set_option maxRecDepth 100000 in
theorem tm_run8 : tmAll 0 12 [(13, 3)] = true := by kernel_rfl
set_option maxRecDepth 100000 in
theorem tm_run16 : tmAll 0 12 [(13, 11)] = true := by kernel_rfl
end Go.Proofs.YtjfchpfbpmediaaGreatDoor
