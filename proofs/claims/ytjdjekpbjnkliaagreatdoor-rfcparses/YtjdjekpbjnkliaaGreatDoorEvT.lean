/-
  A run over letters at this program: the common shape; numbers that are not negative.
-/
import Derived.Test.YtjdjekpbjnkliaaGreatDoorEvS
import Derived.Test.YtjdjekpbjnkliaaGreatDoorProg
import Derived.WalkKit
import Derived.IntWalk
namespace Go.Proofs.YtjdjekpbjnkliaaGreatDoor
open Go Go.RowKit
theorem an {α : Type} {p : α → Prop} : ∀ x ∈ ([] : List α), p x := fun _ h => by cases h
theorem ac {α : Type} {p : α → Prop} {a : α} {l : List α} (h : p a) (t : ∀ x ∈ l, p x) : ∀ x ∈ a :: l, p x := fun x hx => by
  rcases List.mem_cons.1 hx with rfl | hx
  · exact h
  · exact t x hx
theorem mixed : Tryz.prog.follows .mixedOrders = true := by kernel_rfl
section
variable {n m : Nat}
end
end Go.Proofs.YtjdjekpbjnkliaaGreatDoor
