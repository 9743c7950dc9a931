/-
  DERIVED. GIVEN WITH THE SEED: THE CARDS: each row of YtfhhlebadmkckaaDoorRows.lean that lists a variable, with what it lists TIED to the program's text (the seventh form; the later family's looks); each row that meets fmt, with fmt's text TOLD by the authors' own Lean function (tested against real Go, not proved from fmt's source: count such statements apart). THE CARD IS WHAT COUNTS. Prove the row's statement (the work); the ties are given (YtfhhlebadmkckaaDoorTie.lean); close each card by the builder's one call (the guide's Derived/Test/ToyasCard.lean, 'card_holds'). Laid BY PROGRAM, IN A SANDBOX (cutbox-door.mjs). By AI agents, Wed Nov 11 2026. No macro, syntax, notation, axiom, sorry.
-/
import Derived.Test.YtfhhlebadmkckaaDoorRows
import GoSem.ClaimSeven
namespace Go.Proofs.YtfhhlebadmkckaaDoor
namespace Rows

/-- THE TIED CARD OF 'kalendslaw02.RuleOrders'. -/
def ruleOrdersCard : Claim7 := { stood := { row := ruleOrdersRow, standIns := [], harness := (true, "f325bdac9c511e34bfdb2f60c18e6bee78815feeaf2e6ca3ccc99bd04420fd92"), looks := false }, kinds := [], alts := [], laidByText := true, laidKinds := [.data], laidTests := true, laidLooks := .later }
def RuleOrdersCardSaid : Prop := Claim7.holds Tryd.pinned (.plain (OpenSpec.ofChange ruleOrdersSpec)) ruleOrdersCard

/-- THE TIED CARD OF 'kalendslaw02.RuleFewer'. -/
def ruleFewerCard : Claim7 := { stood := { row := ruleFewerRow, standIns := [], harness := (true, "f325bdac9c511e34bfdb2f60c18e6bee78815feeaf2e6ca3ccc99bd04420fd92"), looks := false }, kinds := [], alts := [], laidByText := true, laidKinds := [.data], laidTests := true, laidLooks := .later }
def RuleFewerCardSaid : Prop := Claim7.holds Tryd.pinned (.plain (OpenSpec.ofChange ruleFewerSpec)) ruleFewerCard

/-- THE SECOND FORM's CARD OF 'kalendslaw02.RuleOrders'. -/
def ruleOrdersUptoCard : Claim7 := { stood := { row := ruleOrdersUptoRow, standIns := [], harness := (true, "f325bdac9c511e34bfdb2f60c18e6bee78815feeaf2e6ca3ccc99bd04420fd92"), looks := false }, kinds := [], alts := [], laidByText := true, laidKinds := [.data], laidTests := true, laidLooks := .later }
def RuleOrdersUptoCardSaid : Prop := Claim7.holds Tryd.pinned (.plain (OpenSpec.upto ruleOrdersSpec)) ruleOrdersUptoCard

/-- THE SECOND FORM's CARD OF 'kalendslaw02.RuleFewer'. -/
def ruleFewerUptoCard : Claim7 := { stood := { row := ruleFewerUptoRow, standIns := [], harness := (true, "f325bdac9c511e34bfdb2f60c18e6bee78815feeaf2e6ca3ccc99bd04420fd92"), looks := false }, kinds := [], alts := [], laidByText := true, laidKinds := [.data], laidTests := true, laidLooks := .later }
def RuleFewerUptoCardSaid : Prop := Claim7.holds Tryd.pinned (.plain (OpenSpec.upto ruleFewerSpec)) ruleFewerUptoCard
end Rows
end Go.Proofs.YtfhhlebadmkckaaDoor
