/-
  table: the law TableChecks over letters: runs with another value's words.
-/
import Derived.Test.YtjfchpfbpmediaaGreatDoorTy2
namespace Go.Proofs.YtjfchpfbpmediaaGreatDoor
open Go Go.RowKit
set_option maxRecDepth 100000 in
theorem tc_run4a : ((Tbl.keys.take 21).all fun k => isV true (tcRun 4 k.1 k.2 0 (.int .i64 k.2))) = true := by kernel_rfl
set_option maxRecDepth 100000 in
theorem tc_run4b : ((Tbl.keys.drop 21).all fun k => isV true (tcRun 4 k.1 k.2 0 (.int .i64 k.2))) = true := by kernel_rfl
theorem tc_run4 : ∀ k ∈ Tbl.keys, isV true (tcRun 4 k.1 k.2 0 (.int .i64 k.2)) = true := by
  intro k hk
  rw [← List.take_append_drop 21 Tbl.keys] at hk
  rcases List.mem_append.1 hk with h | h
  · exact List.all_eq_true.1 tc_run4a k h
  · exact List.all_eq_true.1 tc_run4b k h
end Go.Proofs.YtjfchpfbpmediaaGreatDoor
