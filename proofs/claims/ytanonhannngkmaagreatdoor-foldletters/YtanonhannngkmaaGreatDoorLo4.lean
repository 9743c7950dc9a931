/-
  locale: the runs of the functions that make the tables.
-/
import Derived.Test.YtanonhannngkmaaGreatDoorLo2
import Derived.Test.YtanonhannngkmaaGreatDoorEvZ
namespace Go.Proofs.YtanonhannngkmaaGreatDoor
open Go Go.RowKit
set_option maxRecDepth 100000 in
theorem lo_made2 : keeps false 64 (callEv Tryz.prog splitP 64 (@codeQ noOrc Tryz.prog splitP 64 64 400 false) 38 [] ⟨64, []⟩) Loc.tabK (.pointer (some ⟨0, 0, none⟩)) (Loc.tab 2) = true := by kernel_rfl
set_option maxRecDepth 100000 in
theorem lo_made3 : keeps false 64 (callEv Tryz.prog splitP 64 (@codeQ noOrc Tryz.prog splitP 64 64 400 false) 39 [] ⟨64, []⟩) Loc.tabK (.pointer (some ⟨0, 0, none⟩)) (Loc.tab 3) = true := by kernel_rfl
end Go.Proofs.YtanonhannngkmaaGreatDoor
