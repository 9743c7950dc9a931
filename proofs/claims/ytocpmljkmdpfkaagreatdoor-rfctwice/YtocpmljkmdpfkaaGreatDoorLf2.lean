/-
  Steps where two operations may come now.
-/
import Derived.Test.YtocpmljkmdpfkaaGreatDoorLf
namespace Go.Proofs.YtocpmljkmdpfkaaGreatDoor
open Go.RowKit
section
variable {P : Program} {ops : Array Oper} {Q : Exit → Act → World → Prop} {S : World → Prop} {fuel : Nat} {listed : Array Bool} {a : Act} {w w' : World} {v : Value}
end
end Go.Proofs.YtocpmljkmdpfkaaGreatDoor
