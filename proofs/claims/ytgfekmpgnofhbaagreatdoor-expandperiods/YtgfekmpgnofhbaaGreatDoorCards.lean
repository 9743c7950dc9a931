/-
  DERIVED. GIVEN WITH THE SEED: THE CARDS: each row of YtgfekmpgnofhbaaGreatDoorRows.lean that lists a variable, with what it lists TIED to the program's text (the seventh form; the later family's looks); each row that meets fmt, with fmt's text TOLD by the authors' own Lean function (tested against real Go, not proved from fmt's source: count such statements apart). THE CARD IS WHAT COUNTS. Prove the row's statement (the work); the ties are given (YtgfekmpgnofhbaaGreatDoorTie.lean); close each card by the builder's one call (the guide's Derived/Test/ToyasCard.lean, 'card_holds'). Laid BY PROGRAM, IN A SANDBOX (cutbox-door.mjs). By AI agents, Wed Nov 11 2026. No macro, syntax, notation, axiom, sorry.
-/
import Derived.Test.YtgfekmpgnofhbaaGreatDoorRows
import GoSem.ClaimSeven
namespace Go.Proofs.YtgfekmpgnofhbaaGreatDoor
namespace Rows

/-- THE TIED CARD OF 'kalendslaw05.ExpandPeriods'. -/
def expandPeriodsCard : Claim7 := { stood := { row := expandPeriodsRow, standIns := [], harness := (true, "71207641203cb42b197e8bb75b1ceb406de78a01f24f173429a8d9ffbf450035"), looks := true }, kinds := [], alts := [], laidByText := true, laidKinds := [.data, .data, .data, .data, .data, .sentinel, .sentinel, .data, .data, .data, .pinned], laidTests := true, laidLooks := .later }
def ExpandPeriodsCardSaid : Prop := Claim7.holds Tryz.pinned (.plain (OpenSpec.ofChange expandPeriodsSpec)) expandPeriodsCard

/-- THE SECOND FORM's CARD OF 'kalendslaw05.ExpandPeriods'. -/
def expandPeriodsUptoCard : Claim7 := { stood := { row := expandPeriodsUptoRow, standIns := [], harness := (true, "71207641203cb42b197e8bb75b1ceb406de78a01f24f173429a8d9ffbf450035"), looks := true }, kinds := [], alts := [], laidByText := true, laidKinds := [.data, .data, .data, .data, .data, .sentinel, .sentinel, .data, .data, .data, .pinned], laidTests := true, laidLooks := .later }
def ExpandPeriodsUptoCardSaid : Prop := Claim7.holds Tryz.pinned (.plain (OpenSpec.upto expandPeriodsSpec)) expandPeriodsUptoCard
end Rows
end Go.Proofs.YtgfekmpgnofhbaaGreatDoor
