/-
  DERIVED. GIVEN WITH THE SEED: THE CARDS: each row of YtfliehkmncbpnaaGreatDoorRows.lean that lists a variable, with what it lists TIED to the program's text (the seventh form; the later family's looks); each row that meets fmt, with fmt's text TOLD by the authors' own Lean function (tested against real Go, not proved from fmt's source: count such statements apart). THE CARD IS WHAT COUNTS. Prove the row's statement (the work); the ties are given (YtfliehkmncbpnaaGreatDoorTie.lean); close each card by the builder's one call (the guide's Derived/Test/ToyasCard.lean, 'card_holds'). Laid BY PROGRAM, IN A SANDBOX (cutbox-door.mjs). By AI agents, Wed Nov 11 2026. No macro, syntax, notation, axiom, sorry.
-/
import Derived.Test.YtfliehkmncbpnaaGreatDoorRows
import GoSem.ClaimSeven
namespace Go.Proofs.YtfliehkmncbpnaaGreatDoor
namespace Rows

/-- THE TIED CARD OF 'kalendslaw03.RfcApart'. -/
def rfcApartCard : Claim7 := { stood := { row := rfcApartRow, standIns := [], harness := (true, "f9cca31863dfb42ea88eec92255a46a4eb385e373880ec2185b15925bf08143c"), looks := true }, kinds := [], alts := [], laidByText := true, laidKinds := [.data, .data, .data, .data, .data, .sentinel, .sentinel, .data, .data, .data, .pinned], laidTests := true, laidLooks := .later }
def RfcApartCardSaid : Prop := Claim7.holds Tryz.pinned (.plain (OpenSpec.ofChange rfcApartSpec)) rfcApartCard

/-- THE SECOND FORM's CARD OF 'kalendslaw03.RfcApart'. -/
def rfcApartUptoCard : Claim7 := { stood := { row := rfcApartUptoRow, standIns := [], harness := (true, "f9cca31863dfb42ea88eec92255a46a4eb385e373880ec2185b15925bf08143c"), looks := true }, kinds := [], alts := [], laidByText := true, laidKinds := [.data, .data, .data, .data, .data, .sentinel, .sentinel, .data, .data, .data, .pinned], laidTests := true, laidLooks := .later }
def RfcApartUptoCardSaid : Prop := Claim7.holds Tryz.pinned (.plain (OpenSpec.upto rfcApartSpec)) rfcApartUptoCard
end Rows
end Go.Proofs.YtfliehkmncbpnaaGreatDoor
