/-
  DERIVED. GIVEN WITH THE SEED: THE CARDS: each row of YtnggajehngemmaaGreatDoorRows.lean that lists a variable, with what it lists TIED to the program's text (the seventh form; the later family's looks); each row that meets fmt, with fmt's text TOLD by the authors' own Lean function (tested against real Go, not proved from fmt's source: count such statements apart). THE CARD IS WHAT COUNTS. Prove the row's statement (the work); the ties are given (YtnggajehngemmaaGreatDoorTie.lean); close each card by the builder's one call (the guide's Derived/Test/ToyasCard.lean, 'card_holds'). Laid BY PROGRAM, IN A SANDBOX (cutbox-door.mjs). By AI agents, Wed Nov 11 2026. No macro, syntax, notation, axiom, sorry.
-/
import Derived.Test.YtnggajehngemmaaGreatDoorRows
import GoSem.ClaimSeven
namespace Go.Proofs.YtnggajehngemmaaGreatDoor
namespace Rows

/-- THE TIED CARD OF 'kalendslaw04.NormalOf'. -/
def normalOfCard : Claim7 := { stood := { row := normalOfRow, standIns := [], harness := (true, "5c95bddf91a3d4b011866101475c41fc5ef0fad30434aed5a629ac9c646f789d"), looks := true }, kinds := [], alts := [], laidByText := true, laidKinds := [.data, .data, .data, .data, .data, .sentinel, .sentinel, .data, .data, .data, .pinned], laidTests := true, laidLooks := .later }
def NormalOfCardSaid : Prop := Claim7.holds Tryz.pinned (.plain (OpenSpec.ofChange normalOfSpec)) normalOfCard

/-- THE TIED CARD OF 'kalendslaw04.NormalMay'. -/
def normalMayCard : Claim7 := { stood := { row := normalMayRow, standIns := [], harness := (true, "5c95bddf91a3d4b011866101475c41fc5ef0fad30434aed5a629ac9c646f789d"), looks := true }, kinds := [], alts := [], laidByText := true, laidKinds := [.data, .data, .data, .data, .data, .sentinel, .sentinel, .data, .data, .data, .pinned], laidTests := true, laidLooks := .later }
def NormalMayCardSaid : Prop := Claim7.holds Tryz.pinned (.plain (OpenSpec.ofChange normalMaySpec)) normalMayCard

/-- THE TIED CARD OF 'kalendslaw04.NormalMixed'. -/
def normalMixedCard : Claim7 := { stood := { row := normalMixedRow, standIns := [], harness := (true, "5c95bddf91a3d4b011866101475c41fc5ef0fad30434aed5a629ac9c646f789d"), looks := true }, kinds := [], alts := [], laidByText := true, laidKinds := [.data, .data, .data, .data, .data, .sentinel, .sentinel, .data, .data, .data, .pinned], laidTests := true, laidLooks := .later }
def NormalMixedCardSaid : Prop := Claim7.holds Tryz.pinned (.plain (OpenSpec.ofChange normalMixedSpec)) normalMixedCard

/-- THE TIED CARD OF 'kalendslaw04.NormalKeeps'. -/
def normalKeepsCard : Claim7 := { stood := { row := normalKeepsRow, standIns := [], harness := (true, "5c95bddf91a3d4b011866101475c41fc5ef0fad30434aed5a629ac9c646f789d"), looks := true }, kinds := [], alts := [], laidByText := true, laidKinds := [.data, .data, .data, .data, .data, .sentinel, .sentinel, .data, .data, .data, .pinned], laidTests := true, laidLooks := .later }
def NormalKeepsCardSaid : Prop := Claim7.holds Tryz.pinned (.plain (OpenSpec.ofChange normalKeepsSpec)) normalKeepsCard

/-- THE SECOND FORM's CARD OF 'kalendslaw04.NormalOf'. -/
def normalOfUptoCard : Claim7 := { stood := { row := normalOfUptoRow, standIns := [], harness := (true, "5c95bddf91a3d4b011866101475c41fc5ef0fad30434aed5a629ac9c646f789d"), looks := true }, kinds := [], alts := [], laidByText := true, laidKinds := [.data, .data, .data, .data, .data, .sentinel, .sentinel, .data, .data, .data, .pinned], laidTests := true, laidLooks := .later }
def NormalOfUptoCardSaid : Prop := Claim7.holds Tryz.pinned (.plain (OpenSpec.upto normalOfSpec)) normalOfUptoCard

/-- THE SECOND FORM's CARD OF 'kalendslaw04.NormalMay'. -/
def normalMayUptoCard : Claim7 := { stood := { row := normalMayUptoRow, standIns := [], harness := (true, "5c95bddf91a3d4b011866101475c41fc5ef0fad30434aed5a629ac9c646f789d"), looks := true }, kinds := [], alts := [], laidByText := true, laidKinds := [.data, .data, .data, .data, .data, .sentinel, .sentinel, .data, .data, .data, .pinned], laidTests := true, laidLooks := .later }
def NormalMayUptoCardSaid : Prop := Claim7.holds Tryz.pinned (.plain (OpenSpec.upto normalMaySpec)) normalMayUptoCard

/-- THE SECOND FORM's CARD OF 'kalendslaw04.NormalMixed'. -/
def normalMixedUptoCard : Claim7 := { stood := { row := normalMixedUptoRow, standIns := [], harness := (true, "5c95bddf91a3d4b011866101475c41fc5ef0fad30434aed5a629ac9c646f789d"), looks := true }, kinds := [], alts := [], laidByText := true, laidKinds := [.data, .data, .data, .data, .data, .sentinel, .sentinel, .data, .data, .data, .pinned], laidTests := true, laidLooks := .later }
def NormalMixedUptoCardSaid : Prop := Claim7.holds Tryz.pinned (.plain (OpenSpec.upto normalMixedSpec)) normalMixedUptoCard

/-- THE SECOND FORM's CARD OF 'kalendslaw04.NormalKeeps'. -/
def normalKeepsUptoCard : Claim7 := { stood := { row := normalKeepsUptoRow, standIns := [], harness := (true, "5c95bddf91a3d4b011866101475c41fc5ef0fad30434aed5a629ac9c646f789d"), looks := true }, kinds := [], alts := [], laidByText := true, laidKinds := [.data, .data, .data, .data, .data, .sentinel, .sentinel, .data, .data, .data, .pinned], laidTests := true, laidLooks := .later }
def NormalKeepsUptoCardSaid : Prop := Claim7.holds Tryz.pinned (.plain (OpenSpec.upto normalKeepsSpec)) normalKeepsUptoCard
end Rows
end Go.Proofs.YtnggajehngemmaaGreatDoor
