/-
  Contracts of plural's endsInTeen, isFew, Form, over letters.
-/
import Derived.Test.YtjfchpfbpmediaaGreatDoorEvT
import Derived.Test.YtjfchpfbpmediaaGreatDoorPl1
namespace Go.Proofs.YtjfchpfbpmediaaGreatDoor
open Go Go.RowKit
end Go.Proofs.YtjfchpfbpmediaaGreatDoor
