/-
  The law's Check over letters: its runs over the lists, period 2.
-/
import Derived.Test.YtjdjekpbjnkliaaGreatDoorCk5
namespace Go.Proofs.YtjdjekpbjnkliaaGreatDoor
open Go Go.RowKit
namespace Ck
set_option maxRecDepth 100000 in
theorem top_fail2 : ((List.range 3).all fun j => (List.range 4).all fun k => tL 2 j k && tE 2 j k 3 && tE 2 j k 4) = true := by kernel_rfl
set_option maxRecDepth 100000 in
theorem top_odd2 : ((List.range 3).all fun j => bools.all fun d => bools.all fun p => bools.all fun m => bools.all fun w => tO 2 j d p m w) = true := by kernel_rfl
end Ck
end Go.Proofs.YtjdjekpbjnkliaaGreatDoor
