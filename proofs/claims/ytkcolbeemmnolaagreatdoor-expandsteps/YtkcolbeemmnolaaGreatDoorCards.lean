/-
  DERIVED. GIVEN WITH THE SEED: THE CARDS: each row of YtkcolbeemmnolaaGreatDoorRows.lean that lists a variable, with what it lists TIED to the program's text (the seventh form; the later family's looks); each row that meets fmt, with fmt's text TOLD by the authors' own Lean function (tested against real Go, not proved from fmt's source: count such statements apart). THE CARD IS WHAT COUNTS. Prove the row's statement (the work); the ties are given (YtkcolbeemmnolaaGreatDoorTie.lean); close each card by the builder's one call (the guide's Derived/Test/ToyasCard.lean, 'card_holds'). Laid BY PROGRAM, IN A SANDBOX (cutbox-door.mjs). By AI agents, Wed Nov 11 2026. No macro, syntax, notation, axiom, sorry.
-/
import Derived.Test.YtkcolbeemmnolaaGreatDoorRows
import GoSem.ClaimSeven
namespace Go.Proofs.YtkcolbeemmnolaaGreatDoor
namespace Rows

/-- THE TIED CARD OF 'kalendslaw05.ExpandSteps'. -/
def expandStepsCard : Claim7 := { stood := { row := expandStepsRow, standIns := [], harness := (true, "8ee47c1fd01345afb07110701e81492469f1163165a7ad320ad5455f5c43ae80"), looks := true }, kinds := [], alts := [], laidByText := true, laidKinds := [.data, .data, .data, .data, .data, .sentinel, .sentinel, .data, .data, .data, .pinned], laidTests := true, laidLooks := .later }
def ExpandStepsCardSaid : Prop := Claim7.holds Tryz.pinned (.plain (OpenSpec.ofChange expandStepsSpec)) expandStepsCard

/-- THE SECOND FORM's CARD OF 'kalendslaw05.ExpandSteps'. -/
def expandStepsUptoCard : Claim7 := { stood := { row := expandStepsUptoRow, standIns := [], harness := (true, "8ee47c1fd01345afb07110701e81492469f1163165a7ad320ad5455f5c43ae80"), looks := true }, kinds := [], alts := [], laidByText := true, laidKinds := [.data, .data, .data, .data, .data, .sentinel, .sentinel, .data, .data, .data, .pinned], laidTests := true, laidLooks := .later }
def ExpandStepsUptoCardSaid : Prop := Claim7.holds Tryz.pinned (.plain (OpenSpec.upto expandStepsSpec)) expandStepsUptoCard
end Rows
end Go.Proofs.YtkcolbeemmnolaaGreatDoor
