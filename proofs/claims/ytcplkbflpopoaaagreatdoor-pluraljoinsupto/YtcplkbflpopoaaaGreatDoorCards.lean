/-
  DERIVED. GIVEN WITH THE SEED: THE CARDS: each row of YtcplkbflpopoaaaGreatDoorRows.lean that lists a variable, with what it lists TIED to the program's text (the seventh form; the later family's looks); each row that meets fmt, with fmt's text TOLD by the authors' own Lean function (tested against real Go, not proved from fmt's source: count such statements apart). THE CARD IS WHAT COUNTS. Prove the row's statement (the work); the ties are given (YtcplkbflpopoaaaGreatDoorTie.lean); close each card by the builder's one call (the guide's Derived/Test/ToyasCard.lean, 'card_holds'). Laid BY PROGRAM, IN A SANDBOX (cutbox-door.mjs). By AI agents, Wed Nov 11 2026. No macro, syntax, notation, axiom, sorry.
-/
import Derived.Test.YtcplkbflpopoaaaGreatDoorRows
import GoSem.ClaimSeven
namespace Go.Proofs.YtcplkbflpopoaaaGreatDoor
namespace Rows

/-- THE TIED CARD OF 'kalendslaw07.PluralForms'. -/
def pluralFormsCard : Claim7 := { stood := { row := pluralFormsRow, standIns := [], harness := (true, "e223e9c44c13225cc30f7aab0ae49c97b32c7495bddc2594d4d2f25a21cbec58"), looks := true }, kinds := [], alts := [], laidByText := true, laidKinds := [.data, .data, .data, .data, .data, .sentinel, .sentinel, .data, .data, .data, .pinned], laidTests := true, laidLooks := .later }
def PluralFormsCardSaid : Prop := Claim7.holds Tryz.pinned (.plain (OpenSpec.ofChange pluralFormsSpec)) pluralFormsCard

/-- THE TIED CARD OF 'kalendslaw07.PluralOrdinals'. -/
def pluralOrdinalsCard : Claim7 := { stood := { row := pluralOrdinalsRow, standIns := [], harness := (true, "e223e9c44c13225cc30f7aab0ae49c97b32c7495bddc2594d4d2f25a21cbec58"), looks := true }, kinds := [], alts := [], laidByText := true, laidKinds := [.data, .data, .data, .data, .data, .sentinel, .sentinel, .data, .data, .data, .pinned], laidTests := true, laidLooks := .later }
def PluralOrdinalsCardSaid : Prop := Claim7.holds Tryz.pinned (.plain (OpenSpec.ofChange pluralOrdinalsSpec)) pluralOrdinalsCard

/-- THE TIED CARD OF 'kalendslaw07.PluralReads'. -/
def pluralReadsCard : Claim7 := { stood := { row := pluralReadsRow, standIns := [], harness := (true, "e223e9c44c13225cc30f7aab0ae49c97b32c7495bddc2594d4d2f25a21cbec58"), looks := true }, kinds := [], alts := [], laidByText := true, laidKinds := [.data, .data, .data, .data, .data, .sentinel, .sentinel, .data, .data, .data, .pinned], laidTests := true, laidLooks := .later }
def PluralReadsCardSaid : Prop := Claim7.holds Tryz.pinned (.plain (OpenSpec.ofChange pluralReadsSpec)) pluralReadsCard

/-- THE TIED CARD OF 'kalendslaw07.PluralJoins'. -/
def pluralJoinsCard : Claim7 := { stood := { row := pluralJoinsRow, standIns := [], harness := (true, "e223e9c44c13225cc30f7aab0ae49c97b32c7495bddc2594d4d2f25a21cbec58"), looks := true }, kinds := [], alts := [], laidByText := true, laidKinds := [.data, .data, .data, .data, .data, .sentinel, .sentinel, .data, .data, .data, .pinned], laidTests := true, laidLooks := .later }
def PluralJoinsCardSaid : Prop := Claim7.holds Tryz.pinned (.plain (OpenSpec.ofChange pluralJoinsSpec)) pluralJoinsCard

/-- THE TIED CARD OF 'kalendslaw07.PluralApart'. -/
def pluralApartCard : Claim7 := { stood := { row := pluralApartRow, standIns := [], harness := (true, "e223e9c44c13225cc30f7aab0ae49c97b32c7495bddc2594d4d2f25a21cbec58"), looks := true }, kinds := [], alts := [], laidByText := true, laidKinds := [.data, .data, .data, .data, .data, .sentinel, .sentinel, .data, .data, .data, .pinned], laidTests := true, laidLooks := .later }
def PluralApartCardSaid : Prop := Claim7.holds Tryz.pinned (.plain (OpenSpec.ofChange pluralApartSpec)) pluralApartCard

/-- THE TIED CARD OF 'kalendslaw07.PluralHundreds'. -/
def pluralHundredsCard : Claim7 := { stood := { row := pluralHundredsRow, standIns := [], harness := (true, "e223e9c44c13225cc30f7aab0ae49c97b32c7495bddc2594d4d2f25a21cbec58"), looks := true }, kinds := [], alts := [], laidByText := true, laidKinds := [.data, .data, .data, .data, .data, .sentinel, .sentinel, .data, .data, .data, .pinned], laidTests := true, laidLooks := .later }
def PluralHundredsCardSaid : Prop := Claim7.holds Tryz.pinned (.plain (OpenSpec.ofChange pluralHundredsSpec)) pluralHundredsCard

/-- THE SECOND FORM's CARD OF 'kalendslaw07.PluralForms'. -/
def pluralFormsUptoCard : Claim7 := { stood := { row := pluralFormsUptoRow, standIns := [], harness := (true, "e223e9c44c13225cc30f7aab0ae49c97b32c7495bddc2594d4d2f25a21cbec58"), looks := true }, kinds := [], alts := [], laidByText := true, laidKinds := [.data, .data, .data, .data, .data, .sentinel, .sentinel, .data, .data, .data, .pinned], laidTests := true, laidLooks := .later }
def PluralFormsUptoCardSaid : Prop := Claim7.holds Tryz.pinned (.plain (OpenSpec.upto pluralFormsSpec)) pluralFormsUptoCard

/-- THE SECOND FORM's CARD OF 'kalendslaw07.PluralOrdinals'. -/
def pluralOrdinalsUptoCard : Claim7 := { stood := { row := pluralOrdinalsUptoRow, standIns := [], harness := (true, "e223e9c44c13225cc30f7aab0ae49c97b32c7495bddc2594d4d2f25a21cbec58"), looks := true }, kinds := [], alts := [], laidByText := true, laidKinds := [.data, .data, .data, .data, .data, .sentinel, .sentinel, .data, .data, .data, .pinned], laidTests := true, laidLooks := .later }
def PluralOrdinalsUptoCardSaid : Prop := Claim7.holds Tryz.pinned (.plain (OpenSpec.upto pluralOrdinalsSpec)) pluralOrdinalsUptoCard

/-- THE SECOND FORM's CARD OF 'kalendslaw07.PluralReads'. -/
def pluralReadsUptoCard : Claim7 := { stood := { row := pluralReadsUptoRow, standIns := [], harness := (true, "e223e9c44c13225cc30f7aab0ae49c97b32c7495bddc2594d4d2f25a21cbec58"), looks := true }, kinds := [], alts := [], laidByText := true, laidKinds := [.data, .data, .data, .data, .data, .sentinel, .sentinel, .data, .data, .data, .pinned], laidTests := true, laidLooks := .later }
def PluralReadsUptoCardSaid : Prop := Claim7.holds Tryz.pinned (.plain (OpenSpec.upto pluralReadsSpec)) pluralReadsUptoCard

/-- THE SECOND FORM's CARD OF 'kalendslaw07.PluralJoins'. -/
def pluralJoinsUptoCard : Claim7 := { stood := { row := pluralJoinsUptoRow, standIns := [], harness := (true, "e223e9c44c13225cc30f7aab0ae49c97b32c7495bddc2594d4d2f25a21cbec58"), looks := true }, kinds := [], alts := [], laidByText := true, laidKinds := [.data, .data, .data, .data, .data, .sentinel, .sentinel, .data, .data, .data, .pinned], laidTests := true, laidLooks := .later }
def PluralJoinsUptoCardSaid : Prop := Claim7.holds Tryz.pinned (.plain (OpenSpec.upto pluralJoinsSpec)) pluralJoinsUptoCard

/-- THE SECOND FORM's CARD OF 'kalendslaw07.PluralApart'. -/
def pluralApartUptoCard : Claim7 := { stood := { row := pluralApartUptoRow, standIns := [], harness := (true, "e223e9c44c13225cc30f7aab0ae49c97b32c7495bddc2594d4d2f25a21cbec58"), looks := true }, kinds := [], alts := [], laidByText := true, laidKinds := [.data, .data, .data, .data, .data, .sentinel, .sentinel, .data, .data, .data, .pinned], laidTests := true, laidLooks := .later }
def PluralApartUptoCardSaid : Prop := Claim7.holds Tryz.pinned (.plain (OpenSpec.upto pluralApartSpec)) pluralApartUptoCard

/-- THE SECOND FORM's CARD OF 'kalendslaw07.PluralHundreds'. -/
def pluralHundredsUptoCard : Claim7 := { stood := { row := pluralHundredsUptoRow, standIns := [], harness := (true, "e223e9c44c13225cc30f7aab0ae49c97b32c7495bddc2594d4d2f25a21cbec58"), looks := true }, kinds := [], alts := [], laidByText := true, laidKinds := [.data, .data, .data, .data, .data, .sentinel, .sentinel, .data, .data, .data, .pinned], laidTests := true, laidLooks := .later }
def PluralHundredsUptoCardSaid : Prop := Claim7.holds Tryz.pinned (.plain (OpenSpec.upto pluralHundredsSpec)) pluralHundredsUptoCard
end Rows
end Go.Proofs.YtcplkbflpopoaaaGreatDoor
