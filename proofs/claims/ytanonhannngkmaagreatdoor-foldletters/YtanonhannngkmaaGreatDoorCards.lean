/-
  DERIVED. GIVEN WITH THE SEED: THE CARDS: each row of YtanonhannngkmaaGreatDoorRows.lean that lists a variable, with what it lists TIED to the program's text (the seventh form; the later family's looks); each row that meets fmt, with fmt's text TOLD by the authors' own Lean function (tested against real Go, not proved from fmt's source: count such statements apart). THE CARD IS WHAT COUNTS. Prove the row's statement (the work); the ties are given (YtanonhannngkmaaGreatDoorTie.lean); close each card by the builder's one call (the guide's Derived/Test/ToyasCard.lean, 'card_holds'). Laid BY PROGRAM, IN A SANDBOX (cutbox-door.mjs). By AI agents, Wed Nov 11 2026. No macro, syntax, notation, axiom, sorry.
-/
import Derived.Test.YtanonhannngkmaaGreatDoorRows
import GoSem.ClaimSeven
namespace Go.Proofs.YtanonhannngkmaaGreatDoor
namespace Rows

/-- THE TIED CARD OF 'kalendslaw10.FoldBad'. -/
def foldBadCard : Claim7 := { stood := { row := foldBadRow, standIns := [], harness := (true, "079b79941148aa644e14eb25fcabefd537d3580371d1caffbffd70ba227395ab"), looks := true }, kinds := [], alts := [], laidByText := true, laidKinds := [.data, .data, .data, .data, .data, .sentinel, .sentinel, .data, .data, .data, .pinned], laidTests := true, laidLooks := .later }
def FoldBadCardSaid : Prop := Claim7.holds Tryz.pinned (.plain (OpenSpec.ofChange foldBadSpec)) foldBadCard

/-- THE TIED CARD OF 'kalendslaw10.FoldSmall'. -/
def foldSmallCard : Claim7 := { stood := { row := foldSmallRow, standIns := [], harness := (true, "079b79941148aa644e14eb25fcabefd537d3580371d1caffbffd70ba227395ab"), looks := true }, kinds := [], alts := [], laidByText := true, laidKinds := [.data, .data, .data, .data, .data, .sentinel, .sentinel, .data, .data, .data, .pinned], laidTests := true, laidLooks := .later }
def FoldSmallCardSaid : Prop := Claim7.holds Tryz.pinned (.plain (OpenSpec.ofChange foldSmallSpec)) foldSmallCard

/-- THE TIED CARD OF 'kalendslaw10.FoldLetters'. -/
def foldLettersCard : Claim7 := { stood := { row := foldLettersRow, standIns := [], harness := (true, "079b79941148aa644e14eb25fcabefd537d3580371d1caffbffd70ba227395ab"), looks := true }, kinds := [], alts := [], laidByText := true, laidKinds := [.data, .data, .data, .data, .data, .sentinel, .sentinel, .data, .data, .data, .pinned], laidTests := true, laidLooks := .later }
def FoldLettersCardSaid : Prop := Claim7.holds Tryz.pinned (.plain (OpenSpec.ofChange foldLettersSpec)) foldLettersCard

/-- THE TIED CARD OF 'kalendslaw10.FoldJoins'. -/
def foldJoinsCard : Claim7 := { stood := { row := foldJoinsRow, standIns := [], harness := (true, "079b79941148aa644e14eb25fcabefd537d3580371d1caffbffd70ba227395ab"), looks := true }, kinds := [], alts := [], laidByText := true, laidKinds := [.data, .data, .data, .data, .data, .sentinel, .sentinel, .data, .data, .data, .pinned], laidTests := true, laidLooks := .later }
def FoldJoinsCardSaid : Prop := Claim7.holds Tryz.pinned (.plain (OpenSpec.ofChange foldJoinsSpec)) foldJoinsCard

/-- THE SECOND FORM's CARD OF 'kalendslaw10.FoldBad'. -/
def foldBadUptoCard : Claim7 := { stood := { row := foldBadUptoRow, standIns := [], harness := (true, "079b79941148aa644e14eb25fcabefd537d3580371d1caffbffd70ba227395ab"), looks := true }, kinds := [], alts := [], laidByText := true, laidKinds := [.data, .data, .data, .data, .data, .sentinel, .sentinel, .data, .data, .data, .pinned], laidTests := true, laidLooks := .later }
def FoldBadUptoCardSaid : Prop := Claim7.holds Tryz.pinned (.plain (OpenSpec.upto foldBadSpec)) foldBadUptoCard

/-- THE SECOND FORM's CARD OF 'kalendslaw10.FoldSmall'. -/
def foldSmallUptoCard : Claim7 := { stood := { row := foldSmallUptoRow, standIns := [], harness := (true, "079b79941148aa644e14eb25fcabefd537d3580371d1caffbffd70ba227395ab"), looks := true }, kinds := [], alts := [], laidByText := true, laidKinds := [.data, .data, .data, .data, .data, .sentinel, .sentinel, .data, .data, .data, .pinned], laidTests := true, laidLooks := .later }
def FoldSmallUptoCardSaid : Prop := Claim7.holds Tryz.pinned (.plain (OpenSpec.upto foldSmallSpec)) foldSmallUptoCard

/-- THE SECOND FORM's CARD OF 'kalendslaw10.FoldLetters'. -/
def foldLettersUptoCard : Claim7 := { stood := { row := foldLettersUptoRow, standIns := [], harness := (true, "079b79941148aa644e14eb25fcabefd537d3580371d1caffbffd70ba227395ab"), looks := true }, kinds := [], alts := [], laidByText := true, laidKinds := [.data, .data, .data, .data, .data, .sentinel, .sentinel, .data, .data, .data, .pinned], laidTests := true, laidLooks := .later }
def FoldLettersUptoCardSaid : Prop := Claim7.holds Tryz.pinned (.plain (OpenSpec.upto foldLettersSpec)) foldLettersUptoCard

/-- THE SECOND FORM's CARD OF 'kalendslaw10.FoldJoins'. -/
def foldJoinsUptoCard : Claim7 := { stood := { row := foldJoinsUptoRow, standIns := [], harness := (true, "079b79941148aa644e14eb25fcabefd537d3580371d1caffbffd70ba227395ab"), looks := true }, kinds := [], alts := [], laidByText := true, laidKinds := [.data, .data, .data, .data, .data, .sentinel, .sentinel, .data, .data, .data, .pinned], laidTests := true, laidLooks := .later }
def FoldJoinsUptoCardSaid : Prop := Claim7.holds Tryz.pinned (.plain (OpenSpec.upto foldJoinsSpec)) foldJoinsUptoCard
end Rows
end Go.Proofs.YtanonhannngkmaaGreatDoor
