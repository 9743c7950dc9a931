/-
  table: the law TableChecks from its runs.
-/
import Derived.Test.YtjfchpfbpmediaaGreatDoorTy2
namespace Go.Proofs.YtjfchpfbpmediaaGreatDoor
open Go Go.RowKit
/-- its last two bits -/
def two (n : Int) : Nat := (BitVec.ofInt 8 n &&& BitVec.ofInt 8 3).toNat
theorem many_pos (c : Nat) (h : c < 15) : Tbl.many c ≠ 0 := by
  unfold Tbl.many
  split
  · omega
  · split
    · omega
    · split
      · omega
      · split <;> omega
end Go.Proofs.YtjfchpfbpmediaaGreatDoor
