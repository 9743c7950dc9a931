/-
  ExpandSteps: the run over letters, for each number of rounds.
-/
import Derived.Test.YtkcolbeemmnolaaGreatDoorXs4
namespace Go.Proofs.YtkcolbeemmnolaaGreatDoor
open Go Go.RowKit
theorem m13 {m : Nat} (h1 : 1 ≤ m) (h2 : m ≤ 13) : m = 1 ∨ m = 2 ∨ m = 3 ∨ m = 4 ∨ m = 5 ∨ m = 6 ∨ m = 7 ∨ m = 8 ∨ m = 9 ∨ m = 10 ∨ m = 11 ∨ m = 12 ∨ m = 13 := by omega
theorem st_all {m : Nat} (h1 : 1 ≤ m) (h2 : m ≤ 13) : SymG (stO m) [] (stCs m) (stPE m) 200 3 [xA, Lt 9, Lt 10] (.bool true) := by
  rcases m13 h1 h2 with rfl | rfl | rfl | rfl | rfl | rfl | rfl | rfl | rfl | rfl | rfl | rfl | rfl <;> (delta SymG; show _ = _; kernel_rfl)
theorem st_heavy : SymG [] [] [] [(4, fixP (.bool true)), (5, aggP [xA] (.bool false))] 60 3 [xA, Lt 9, Lt 10] (.bool true) := by delta SymG; show _ = _; kernel_rfl
end Go.Proofs.YtkcolbeemmnolaaGreatDoor
