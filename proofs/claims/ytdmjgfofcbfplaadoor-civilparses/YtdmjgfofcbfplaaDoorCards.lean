/-
  DERIVED. GIVEN WITH THE SEED: THE CARDS: each row of YtdmjgfofcbfplaaDoorRows.lean that lists a variable, with what it lists TIED to the program's text (the seventh form; the later family's looks); each row that meets fmt, with fmt's text TOLD by the authors' own Lean function (tested against real Go, not proved from fmt's source: count such statements apart). THE CARD IS WHAT COUNTS. Prove the row's statement (the work); the ties are given (YtdmjgfofcbfplaaDoorTie.lean); close each card by the builder's one call (the guide's Derived/Test/ToyasCard.lean, 'card_holds'). Laid BY PROGRAM, IN A SANDBOX (cutbox-door.mjs). By AI agents, Wed Nov 11 2026. No macro, syntax, notation, axiom, sorry.
-/
import Derived.Test.YtdmjgfofcbfplaaDoorRows
import GoSem.ClaimSeven
namespace Go.Proofs.YtdmjgfofcbfplaaDoor
namespace Rows

/-- THE TIED CARD OF 'kalendslaw01.CivilLong'. -/
def civilLongCard : Claim7 := { stood := { row := civilLongRow, standIns := [], harness := (true, "dcd4261512962a8701d2c2fbbaae41bde4b3fafb73c09d1af7c1c8c5577cf1ec"), looks := false }, kinds := [], alts := [], laidByText := true, laidKinds := [.data], laidTests := true, laidLooks := .later }
def CivilLongCardSaid : Prop := Claim7.holds Tryd.pinned (.plain (OpenSpec.ofChange civilLongSpec)) civilLongCard

/-- THE TIED CARD OF 'kalendslaw01.CivilOf'. -/
def civilOfCard : Claim7 := { stood := { row := civilOfRow, standIns := [], harness := (true, "dcd4261512962a8701d2c2fbbaae41bde4b3fafb73c09d1af7c1c8c5577cf1ec"), looks := false }, kinds := [], alts := [], laidByText := true, laidKinds := [.data], laidTests := true, laidLooks := .later }
def CivilOfCardSaid : Prop := Claim7.holds Tryd.pinned (.plain (OpenSpec.ofChange civilOfSpec)) civilOfCard

/-- THE TIED CARD OF 'kalendslaw01.CivilDates'. -/
def civilDatesCard : Claim7 := { stood := { row := civilDatesRow, standIns := [], harness := (true, "dcd4261512962a8701d2c2fbbaae41bde4b3fafb73c09d1af7c1c8c5577cf1ec"), looks := false }, kinds := [], alts := [], laidByText := true, laidKinds := [.data], laidTests := true, laidLooks := .later }
def CivilDatesCardSaid : Prop := Claim7.holds Tryd.pinned (.plain (OpenSpec.ofChange civilDatesSpec)) civilDatesCard

/-- THE TIED CARD OF 'kalendslaw01.CivilParses'. -/
def civilParsesCard : Claim7 := { stood := { row := civilParsesRow, standIns := [], harness := (true, "dcd4261512962a8701d2c2fbbaae41bde4b3fafb73c09d1af7c1c8c5577cf1ec"), looks := false }, kinds := [], alts := [], laidByText := true, laidKinds := [.data], laidTests := true, laidLooks := .later }
def CivilParsesCardSaid : Prop := Claim7.holds Tryd.pinned (.plain (OpenSpec.ofChange civilParsesSpec)) civilParsesCard

/-- THE TIED CARD OF 'kalendslaw01.CivilNext'. -/
def civilNextCard : Claim7 := { stood := { row := civilNextRow, standIns := [], harness := (true, "dcd4261512962a8701d2c2fbbaae41bde4b3fafb73c09d1af7c1c8c5577cf1ec"), looks := false }, kinds := [], alts := [], laidByText := true, laidKinds := [.data], laidTests := true, laidLooks := .later }
def CivilNextCardSaid : Prop := Claim7.holds Tryd.pinned (.plain (OpenSpec.ofChange civilNextSpec)) civilNextCard

/-- THE TIED CARD OF 'kalendslaw01.CivilYears'. -/
def civilYearsCard : Claim7 := { stood := { row := civilYearsRow, standIns := [], harness := (true, "dcd4261512962a8701d2c2fbbaae41bde4b3fafb73c09d1af7c1c8c5577cf1ec"), looks := false }, kinds := [], alts := [], laidByText := true, laidKinds := [.data], laidTests := true, laidLooks := .later }
def CivilYearsCardSaid : Prop := Claim7.holds Tryd.pinned (.plain (OpenSpec.ofChange civilYearsSpec)) civilYearsCard

/-- THE TIED CARD OF 'kalendslaw01.CivilAges'. -/
def civilAgesCard : Claim7 := { stood := { row := civilAgesRow, standIns := [], harness := (true, "dcd4261512962a8701d2c2fbbaae41bde4b3fafb73c09d1af7c1c8c5577cf1ec"), looks := false }, kinds := [], alts := [], laidByText := true, laidKinds := [.data], laidTests := true, laidLooks := .later }
def CivilAgesCardSaid : Prop := Claim7.holds Tryd.pinned (.plain (OpenSpec.ofChange civilAgesSpec)) civilAgesCard

/-- THE SECOND FORM's CARD OF 'kalendslaw01.CivilLong'. -/
def civilLongUptoCard : Claim7 := { stood := { row := civilLongUptoRow, standIns := [], harness := (true, "dcd4261512962a8701d2c2fbbaae41bde4b3fafb73c09d1af7c1c8c5577cf1ec"), looks := false }, kinds := [], alts := [], laidByText := true, laidKinds := [.data], laidTests := true, laidLooks := .later }
def CivilLongUptoCardSaid : Prop := Claim7.holds Tryd.pinned (.plain (OpenSpec.upto civilLongSpec)) civilLongUptoCard

/-- THE SECOND FORM's CARD OF 'kalendslaw01.CivilOf'. -/
def civilOfUptoCard : Claim7 := { stood := { row := civilOfUptoRow, standIns := [], harness := (true, "dcd4261512962a8701d2c2fbbaae41bde4b3fafb73c09d1af7c1c8c5577cf1ec"), looks := false }, kinds := [], alts := [], laidByText := true, laidKinds := [.data], laidTests := true, laidLooks := .later }
def CivilOfUptoCardSaid : Prop := Claim7.holds Tryd.pinned (.plain (OpenSpec.upto civilOfSpec)) civilOfUptoCard

/-- THE SECOND FORM's CARD OF 'kalendslaw01.CivilDates'. -/
def civilDatesUptoCard : Claim7 := { stood := { row := civilDatesUptoRow, standIns := [], harness := (true, "dcd4261512962a8701d2c2fbbaae41bde4b3fafb73c09d1af7c1c8c5577cf1ec"), looks := false }, kinds := [], alts := [], laidByText := true, laidKinds := [.data], laidTests := true, laidLooks := .later }
def CivilDatesUptoCardSaid : Prop := Claim7.holds Tryd.pinned (.plain (OpenSpec.upto civilDatesSpec)) civilDatesUptoCard

/-- THE SECOND FORM's CARD OF 'kalendslaw01.CivilParses'. -/
def civilParsesUptoCard : Claim7 := { stood := { row := civilParsesUptoRow, standIns := [], harness := (true, "dcd4261512962a8701d2c2fbbaae41bde4b3fafb73c09d1af7c1c8c5577cf1ec"), looks := false }, kinds := [], alts := [], laidByText := true, laidKinds := [.data], laidTests := true, laidLooks := .later }
def CivilParsesUptoCardSaid : Prop := Claim7.holds Tryd.pinned (.plain (OpenSpec.upto civilParsesSpec)) civilParsesUptoCard

/-- THE SECOND FORM's CARD OF 'kalendslaw01.CivilNext'. -/
def civilNextUptoCard : Claim7 := { stood := { row := civilNextUptoRow, standIns := [], harness := (true, "dcd4261512962a8701d2c2fbbaae41bde4b3fafb73c09d1af7c1c8c5577cf1ec"), looks := false }, kinds := [], alts := [], laidByText := true, laidKinds := [.data], laidTests := true, laidLooks := .later }
def CivilNextUptoCardSaid : Prop := Claim7.holds Tryd.pinned (.plain (OpenSpec.upto civilNextSpec)) civilNextUptoCard

/-- THE SECOND FORM's CARD OF 'kalendslaw01.CivilYears'. -/
def civilYearsUptoCard : Claim7 := { stood := { row := civilYearsUptoRow, standIns := [], harness := (true, "dcd4261512962a8701d2c2fbbaae41bde4b3fafb73c09d1af7c1c8c5577cf1ec"), looks := false }, kinds := [], alts := [], laidByText := true, laidKinds := [.data], laidTests := true, laidLooks := .later }
def CivilYearsUptoCardSaid : Prop := Claim7.holds Tryd.pinned (.plain (OpenSpec.upto civilYearsSpec)) civilYearsUptoCard

/-- THE SECOND FORM's CARD OF 'kalendslaw01.CivilAges'. -/
def civilAgesUptoCard : Claim7 := { stood := { row := civilAgesUptoRow, standIns := [], harness := (true, "dcd4261512962a8701d2c2fbbaae41bde4b3fafb73c09d1af7c1c8c5577cf1ec"), looks := false }, kinds := [], alts := [], laidByText := true, laidKinds := [.data], laidTests := true, laidLooks := .later }
def CivilAgesUptoCardSaid : Prop := Claim7.holds Tryd.pinned (.plain (OpenSpec.upto civilAgesSpec)) civilAgesUptoCard
end Rows
end Go.Proofs.YtdmjgfofcbfplaaDoor
