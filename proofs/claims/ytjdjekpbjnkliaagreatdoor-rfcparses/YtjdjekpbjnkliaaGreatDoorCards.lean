/-
  DERIVED. GIVEN WITH THE SEED: THE CARDS: each row of YtjdjekpbjnkliaaGreatDoorRows.lean that lists a variable, with what it lists TIED to the program's text (the seventh form; the later family's looks); each row that meets fmt, with fmt's text TOLD by the authors' own Lean function (tested against real Go, not proved from fmt's source: count such statements apart). THE CARD IS WHAT COUNTS. Prove the row's statement (the work); the ties are given (YtjdjekpbjnkliaaGreatDoorTie.lean); close each card by the builder's one call (the guide's Derived/Test/ToyasCard.lean, 'card_holds'). Laid BY PROGRAM, IN A SANDBOX (cutbox-door.mjs). By AI agents, Wed Nov 11 2026. No macro, syntax, notation, axiom, sorry.
-/
import Derived.Test.YtjdjekpbjnkliaaGreatDoorRows
import GoSem.ClaimSeven
namespace Go.Proofs.YtjdjekpbjnkliaaGreatDoor
namespace Rows

/-- THE TIED CARD OF 'kalendslaw03.RfcParses'. -/
def rfcParsesCard : Claim7 := { stood := { row := rfcParsesRow, standIns := [], harness := (true, "6b5fc95191f968780819582790b97203c655470b035950e5ce4ee82ed8f9ae66"), looks := true }, kinds := [], alts := [], laidByText := true, laidKinds := [.data, .data, .data, .data, .data, .sentinel, .sentinel, .data, .data, .data, .widerDeep, .widerDeep, .pinned], laidTests := true, laidLooks := .later }
def RfcParsesCardSaid : Prop := Claim7.holds Tryz.pinned (.plain (OpenSpec.ofChange rfcParsesSpec)) rfcParsesCard

/-- THE TIED CARD OF 'kalendslaw03.RfcSpoilt'. -/
def rfcSpoiltCard : Claim7 := { stood := { row := rfcSpoiltRow, standIns := [], harness := (true, "6b5fc95191f968780819582790b97203c655470b035950e5ce4ee82ed8f9ae66"), looks := true }, kinds := [], alts := [], laidByText := true, laidKinds := [.data, .data, .data, .data, .data, .sentinel, .sentinel, .data, .data, .data, .widerDeep, .widerDeep, .pinned], laidTests := true, laidLooks := .later }
def RfcSpoiltCardSaid : Prop := Claim7.holds Tryz.pinned (.plain (OpenSpec.ofChange rfcSpoiltSpec)) rfcSpoiltCard

/-- THE SECOND FORM's CARD OF 'kalendslaw03.RfcParses'. -/
def rfcParsesUptoCard : Claim7 := { stood := { row := rfcParsesUptoRow, standIns := [], harness := (true, "6b5fc95191f968780819582790b97203c655470b035950e5ce4ee82ed8f9ae66"), looks := true }, kinds := [], alts := [], laidByText := true, laidKinds := [.data, .data, .data, .data, .data, .sentinel, .sentinel, .data, .data, .data, .widerDeep, .widerDeep, .pinned], laidTests := true, laidLooks := .later }
def RfcParsesUptoCardSaid : Prop := Claim7.holds Tryz.pinned (.plain (OpenSpec.upto rfcParsesSpec)) rfcParsesUptoCard

/-- THE SECOND FORM's CARD OF 'kalendslaw03.RfcSpoilt'. -/
def rfcSpoiltUptoCard : Claim7 := { stood := { row := rfcSpoiltUptoRow, standIns := [], harness := (true, "6b5fc95191f968780819582790b97203c655470b035950e5ce4ee82ed8f9ae66"), looks := true }, kinds := [], alts := [], laidByText := true, laidKinds := [.data, .data, .data, .data, .data, .sentinel, .sentinel, .data, .data, .data, .widerDeep, .widerDeep, .pinned], laidTests := true, laidLooks := .later }
def RfcSpoiltUptoCardSaid : Prop := Claim7.holds Tryz.pinned (.plain (OpenSpec.upto rfcSpoiltSpec)) rfcSpoiltUptoCard
end Rows
end Go.Proofs.YtjdjekpbjnkliaaGreatDoor
