/-
  DERIVED. GIVEN WITH THE SEED: THE CARDS: each row of YtkhmbphcjacgnaaGreatDoorRows.lean that lists a variable, with what it lists TIED to the program's text (the seventh form; the later family's looks); each row that meets fmt, with fmt's text TOLD by the authors' own Lean function (tested against real Go, not proved from fmt's source: count such statements apart). THE CARD IS WHAT COUNTS. Prove the row's statement (the work); the ties are given (YtkhmbphcjacgnaaGreatDoorTie.lean); close each card by the builder's one call (the guide's Derived/Test/ToyasCard.lean, 'card_holds'). Laid BY PROGRAM, IN A SANDBOX (cutbox-door.mjs). By AI agents, Wed Nov 11 2026. No macro, syntax, notation, axiom, sorry.
-/
import Derived.Test.YtkhmbphcjacgnaaGreatDoorRows
import GoSem.ClaimSeven
namespace Go.Proofs.YtkhmbphcjacgnaaGreatDoor
namespace Rows

/-- THE TIED CARD OF 'kalendslaw09.LocaleNamed'. -/
def localeNamedCard : Claim7 := { stood := { row := localeNamedRow, standIns := [], harness := (true, "851da6e2233827badfeee5072e090d839d0c438b72eefb330e1494a7277d8d1c"), looks := true }, kinds := [], alts := [], laidByText := true, laidKinds := [.data, .data, .data, .data, .data, .sentinel, .sentinel, .data, .data, .data, .pinned], laidTests := true, laidLooks := .later }
def LocaleNamedCardSaid : Prop := Claim7.holds Tryz.pinned (.plain (OpenSpec.ofChange localeNamedSpec)) localeNamedCard

/-- THE TIED CARD OF 'kalendslaw09.LocaleApart'. -/
def localeApartCard : Claim7 := { stood := { row := localeApartRow, standIns := [], harness := (true, "851da6e2233827badfeee5072e090d839d0c438b72eefb330e1494a7277d8d1c"), looks := true }, kinds := [], alts := [], laidByText := true, laidKinds := [.data, .data, .data, .data, .data, .sentinel, .sentinel, .data, .data, .data, .pinned], laidTests := true, laidLooks := .later }
def LocaleApartCardSaid : Prop := Claim7.holds Tryz.pinned (.plain (OpenSpec.ofChange localeApartSpec)) localeApartCard

/-- THE SECOND FORM's CARD OF 'kalendslaw09.LocaleNamed'. -/
def localeNamedUptoCard : Claim7 := { stood := { row := localeNamedUptoRow, standIns := [], harness := (true, "851da6e2233827badfeee5072e090d839d0c438b72eefb330e1494a7277d8d1c"), looks := true }, kinds := [], alts := [], laidByText := true, laidKinds := [.data, .data, .data, .data, .data, .sentinel, .sentinel, .data, .data, .data, .pinned], laidTests := true, laidLooks := .later }
def LocaleNamedUptoCardSaid : Prop := Claim7.holds Tryz.pinned (.plain (OpenSpec.upto localeNamedSpec)) localeNamedUptoCard

/-- THE SECOND FORM's CARD OF 'kalendslaw09.LocaleApart'. -/
def localeApartUptoCard : Claim7 := { stood := { row := localeApartUptoRow, standIns := [], harness := (true, "851da6e2233827badfeee5072e090d839d0c438b72eefb330e1494a7277d8d1c"), looks := true }, kinds := [], alts := [], laidByText := true, laidKinds := [.data, .data, .data, .data, .data, .sentinel, .sentinel, .data, .data, .data, .pinned], laidTests := true, laidLooks := .later }
def LocaleApartUptoCardSaid : Prop := Claim7.holds Tryz.pinned (.plain (OpenSpec.upto localeApartSpec)) localeApartUptoCard
end Rows
end Go.Proofs.YtkhmbphcjacgnaaGreatDoor
