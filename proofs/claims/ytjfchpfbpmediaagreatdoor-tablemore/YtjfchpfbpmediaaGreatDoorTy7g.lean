/-
  table: the law TableMore over letters: runs.
-/
import Derived.Test.YtjfchpfbpmediaaGreatDoorTy6
namespace Go.Proofs.YtjfchpfbpmediaaGreatDoor
open Go Go.RowKit
set_option maxRecDepth 100000 in
theorem tm_run5 : tmAll 0 12 [(13, 0)] = true := by kernel_rfl
set_option maxRecDepth 100000 in
theorem tm_run7 : tmAll 0 12 [(13, 2)] = true := by kernel_rfl
set_option maxRecDepth 100000 in
theorem tm_run15 : tmAll 0 12 [(13, 10)] = true := by kernel_rfl
end Go.Proofs.YtjfchpfbpmediaaGreatDoor
