/-
  The law's Check over letters: its inner loop over a list of weekdays: a later round, periods 0 and 1.
-/
import Derived.Test.YtjdjekpbjnkliaaGreatDoorCk2
namespace Go.Proofs.YtjdjekpbjnkliaaGreatDoor
open Go Go.RowKit
namespace Ck
set_option maxRecDepth 100000 in
theorem runw_0 : (([0, 1] : List Nat).all fun f => (List.range 5).all fun j => (List.range 4).all fun i => wR f (w1 true ++ w2 ++ way j ++ ah i) (wayP f j) (bad j) (late i)) = true := by kernel_rfl
end Ck
end Go.Proofs.YtjdjekpbjnkliaaGreatDoor
