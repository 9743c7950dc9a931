/-
  table: the law TableChecks over letters: its runs.
-/
import Derived.Test.YtjfchpfbpmediaaGreatDoorTy1
namespace Go.Proofs.YtjfchpfbpmediaaGreatDoor
open Go Go.RowKit
namespace Tbl
def base : TV := keys.map fun k => (k, (wrds k.1 k.2).map fun s => .string ⟨⟨s⟩⟩)
end Tbl
end Go.Proofs.YtjfchpfbpmediaaGreatDoor
