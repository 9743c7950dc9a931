/-
  DERIVED. GIVEN WITH THE SEED: THE CARDS: each row of YtocpmljkmdpfkaaGreatDoorRows.lean that lists a variable, with what it lists TIED to the program's text (the seventh form; the later family's looks); each row that meets fmt, with fmt's text TOLD by the authors' own Lean function (tested against real Go, not proved from fmt's source: count such statements apart). THE CARD IS WHAT COUNTS. Prove the row's statement (the work); the ties are given (YtocpmljkmdpfkaaGreatDoorTie.lean); close each card by the builder's one call (the guide's Derived/Test/ToyasCard.lean, 'card_holds'). Laid BY PROGRAM, IN A SANDBOX (cutbox-door.mjs). By AI agents, Wed Nov 11 2026. No macro, syntax, notation, axiom, sorry.
-/
import Derived.Test.YtocpmljkmdpfkaaGreatDoorRows
import GoSem.ClaimSeven
namespace Go.Proofs.YtocpmljkmdpfkaaGreatDoor
namespace Rows

/-- THE TIED CARD OF 'kalendslaw03.RfcBack'. -/
def rfcBackCard : Claim7 := { stood := { row := rfcBackRow, standIns := [], harness := (true, "ba7eed6d4b82c167bf92759a49a90fa25b5f9ce9803bad5df6d287e149b205d7"), looks := true }, kinds := [], alts := [], laidByText := true, laidKinds := [.data, .data, .data, .data, .data, .sentinel, .sentinel, .data, .data, .data, .widerDeep, .widerDeep, .pinned], laidTests := true, laidLooks := .later }
def RfcBackCardSaid : Prop := Claim7.holds Tryz.pinned (.plain (OpenSpec.ofChange rfcBackSpec)) rfcBackCard

/-- THE TIED CARD OF 'kalendslaw03.RfcParses'. -/
def rfcParsesCard : Claim7 := { stood := { row := rfcParsesRow, standIns := [], harness := (true, "ba7eed6d4b82c167bf92759a49a90fa25b5f9ce9803bad5df6d287e149b205d7"), looks := true }, kinds := [], alts := [], laidByText := true, laidKinds := [.data, .data, .data, .data, .data, .sentinel, .sentinel, .data, .data, .data, .widerDeep, .widerDeep, .pinned], laidTests := true, laidLooks := .later }
def RfcParsesCardSaid : Prop := Claim7.holds Tryz.pinned (.plain (OpenSpec.ofChange rfcParsesSpec)) rfcParsesCard

/-- THE TIED CARD OF 'kalendslaw03.RfcSpoilt'. -/
def rfcSpoiltCard : Claim7 := { stood := { row := rfcSpoiltRow, standIns := [], harness := (true, "ba7eed6d4b82c167bf92759a49a90fa25b5f9ce9803bad5df6d287e149b205d7"), looks := true }, kinds := [], alts := [], laidByText := true, laidKinds := [.data, .data, .data, .data, .data, .sentinel, .sentinel, .data, .data, .data, .widerDeep, .widerDeep, .pinned], laidTests := true, laidLooks := .later }
def RfcSpoiltCardSaid : Prop := Claim7.holds Tryz.pinned (.plain (OpenSpec.ofChange rfcSpoiltSpec)) rfcSpoiltCard

/-- THE TIED CARD OF 'kalendslaw03.RfcTwice'. -/
def rfcTwiceCard : Claim7 := { stood := { row := rfcTwiceRow, standIns := [], harness := (true, "ba7eed6d4b82c167bf92759a49a90fa25b5f9ce9803bad5df6d287e149b205d7"), looks := true }, kinds := [], alts := [], laidByText := true, laidKinds := [.data, .data, .data, .data, .data, .sentinel, .sentinel, .data, .data, .data, .widerDeep, .widerDeep, .pinned], laidTests := true, laidLooks := .later }
def RfcTwiceCardSaid : Prop := Claim7.holds Tryz.pinned (.plain (OpenSpec.ofChange rfcTwiceSpec)) rfcTwiceCard

/-- THE SECOND FORM's CARD OF 'kalendslaw03.RfcBack'. -/
def rfcBackUptoCard : Claim7 := { stood := { row := rfcBackUptoRow, standIns := [], harness := (true, "ba7eed6d4b82c167bf92759a49a90fa25b5f9ce9803bad5df6d287e149b205d7"), looks := true }, kinds := [], alts := [], laidByText := true, laidKinds := [.data, .data, .data, .data, .data, .sentinel, .sentinel, .data, .data, .data, .widerDeep, .widerDeep, .pinned], laidTests := true, laidLooks := .later }
def RfcBackUptoCardSaid : Prop := Claim7.holds Tryz.pinned (.plain (OpenSpec.upto rfcBackSpec)) rfcBackUptoCard

/-- THE SECOND FORM's CARD OF 'kalendslaw03.RfcParses'. -/
def rfcParsesUptoCard : Claim7 := { stood := { row := rfcParsesUptoRow, standIns := [], harness := (true, "ba7eed6d4b82c167bf92759a49a90fa25b5f9ce9803bad5df6d287e149b205d7"), looks := true }, kinds := [], alts := [], laidByText := true, laidKinds := [.data, .data, .data, .data, .data, .sentinel, .sentinel, .data, .data, .data, .widerDeep, .widerDeep, .pinned], laidTests := true, laidLooks := .later }
def RfcParsesUptoCardSaid : Prop := Claim7.holds Tryz.pinned (.plain (OpenSpec.upto rfcParsesSpec)) rfcParsesUptoCard

/-- THE SECOND FORM's CARD OF 'kalendslaw03.RfcSpoilt'. -/
def rfcSpoiltUptoCard : Claim7 := { stood := { row := rfcSpoiltUptoRow, standIns := [], harness := (true, "ba7eed6d4b82c167bf92759a49a90fa25b5f9ce9803bad5df6d287e149b205d7"), looks := true }, kinds := [], alts := [], laidByText := true, laidKinds := [.data, .data, .data, .data, .data, .sentinel, .sentinel, .data, .data, .data, .widerDeep, .widerDeep, .pinned], laidTests := true, laidLooks := .later }
def RfcSpoiltUptoCardSaid : Prop := Claim7.holds Tryz.pinned (.plain (OpenSpec.upto rfcSpoiltSpec)) rfcSpoiltUptoCard

/-- THE SECOND FORM's CARD OF 'kalendslaw03.RfcTwice'. -/
def rfcTwiceUptoCard : Claim7 := { stood := { row := rfcTwiceUptoRow, standIns := [], harness := (true, "ba7eed6d4b82c167bf92759a49a90fa25b5f9ce9803bad5df6d287e149b205d7"), looks := true }, kinds := [], alts := [], laidByText := true, laidKinds := [.data, .data, .data, .data, .data, .sentinel, .sentinel, .data, .data, .data, .widerDeep, .widerDeep, .pinned], laidTests := true, laidLooks := .later }
def RfcTwiceUptoCardSaid : Prop := Claim7.holds Tryz.pinned (.plain (OpenSpec.upto rfcTwiceSpec)) rfcTwiceUptoCard
end Rows
end Go.Proofs.YtocpmljkmdpfkaaGreatDoor
