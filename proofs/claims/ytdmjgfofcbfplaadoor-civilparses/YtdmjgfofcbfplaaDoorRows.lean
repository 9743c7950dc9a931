/-
  NARROWER THAN 'FOR EVERY INPUT', by the rows' own cells (each row's printed sentence says how): CivilLong: laid · CivilOf: laid · CivilDates: laid · CivilParses: laid · CivilNext: laid · CivilYears: laid · CivilAges: laid.
  DERIVED. THE GIVEN ROWS OF THIS SEAT. 7 by the template 'for every input the law returns true; each argument reads behind the call as it read before'; 0 by the template 'total and deterministic' (their statements: YtdmjgfofcbfplaaDoorTotals.lean).
  GIVEN WITH THE SEED: the statements are not yours to turn. If you find one false, say at which input.
  Laid BY PROGRAM, IN A SANDBOX (cutbox-rows.mjs): the forced cells as the released guide's own fill.sh prints them over the translation dae4f707534eb988… (all of the seat's roots in one cut). By AI agents, Wed Nov 11 2026. No macro, syntax, notation, axiom, sorry.
-/
import Derived.Test.YtdmjgfofcbfplaaDoorChecked
import GoSem.Claim
import GoSem.ClaimJoined
import GoSem.ClaimMapViews
import Derived.JoinedTies
import Derived.KernelRfl
namespace Go.Proofs.YtdmjgfofcbfplaaDoor
/- THE CELL 'sum', in the pinned program and in every row, IS THE sha256 OF THE DUMP (.gsa) THAT YtdmjgfofcbfplaaDoorProg.lean LOADS. Nothing in Lean hashes anything: it is a label: what it is worth is what the hold of that sum in a sandbox is worth. -/
noncomputable def Tryd.pinned : Pinned := { name := "ytdmjgfofcbfplaadoor", sum := "dae4f707534eb9881d3e2a76960da3777dfa2348b64a2b2f5d1c5b3c958db313", checked := Tryd.checked }
namespace Rows
def none {H : Type} : Left H := { results := [], args := [] }

/- WHAT THE LISTED PACKAGE-LEVEL VARIABLES READ AS WHEN THE CALL BEGINS. Each datum BY PROGRAM (the guide's laid-datum.mjs) off the statement by which the dump's own 'gosem.cut.vars' lays the variable. In a bare row this is a premise. The card (YtdmjgfofcbfplaaDoorCards.lean) ties it to the program's text. -/
def laid_kalends_civil_months {H : Type} : DataW H := .agg [.lit (.int .i64 31), .lit (.int .i64 28), .lit (.int .i64 31), .lit (.int .i64 30), .lit (.int .i64 31), .lit (.int .i64 30), .lit (.int .i64 31), .lit (.int .i64 31), .lit (.int .i64 30), .lit (.int .i64 31), .lit (.int .i64 30), .lit (.int .i64 31)]

/-- 'kalendslaw01.CivilLong': WHATEVER THE INPUT: true; the input reads as it did. -/
def civilLongSpec : ChangeSpec := { name := "civilLong", fn := fun _ => fun
  | [d1, d2] => { results := [.lit (.bool true)], args := [d1, d2] }
  | _ => none }
def civilLongRow : OpenClaim := { program := "ytdmjgfofcbfplaadoor", sum := "dae4f707534eb9881d3e2a76960da3777dfa2348b64a2b2f5d1c5b3c958db313", func := "kalends/kalendslaw01.CivilLong", spec := "civilLong", named := ["kalends/civil.months"], apart := false, laid := [("kalends/civil.months", laid_kalends_civil_months)] }
def CivilLongSaid : Prop := civilLongRow.holds Tryd.pinned (OpenSpec.ofChange civilLongSpec)

/-- ITS FALSE NEIGHBOUR: 'it returns false'. Refute it at one input. -/
def civilLongWrong : ChangeSpec := { name := "civilLong", fn := fun _ => fun
  | [d1, d2] => { results := [.lit (.bool false)], args := [d1, d2] }
  | _ => none }
def CivilLongWrongFalsely : Prop := civilLongRow.holds Tryd.pinned (OpenSpec.ofChange civilLongWrong)

/-- 'kalendslaw01.CivilOf': WHATEVER THE INPUT: true; the input reads as it did. -/
def civilOfSpec : ChangeSpec := { name := "civilOf", fn := fun _ => fun
  | [d1, d2, d3] => { results := [.lit (.bool true)], args := [d1, d2, d3] }
  | _ => none }
def civilOfRow : OpenClaim := { program := "ytdmjgfofcbfplaadoor", sum := "dae4f707534eb9881d3e2a76960da3777dfa2348b64a2b2f5d1c5b3c958db313", func := "kalends/kalendslaw01.CivilOf", spec := "civilOf", named := ["kalends/civil.months"], apart := false, laid := [("kalends/civil.months", laid_kalends_civil_months)] }
def CivilOfSaid : Prop := civilOfRow.holds Tryd.pinned (OpenSpec.ofChange civilOfSpec)

/-- ITS FALSE NEIGHBOUR: 'it returns false'. Refute it at one input. -/
def civilOfWrong : ChangeSpec := { name := "civilOf", fn := fun _ => fun
  | [d1, d2, d3] => { results := [.lit (.bool false)], args := [d1, d2, d3] }
  | _ => none }
def CivilOfWrongFalsely : Prop := civilOfRow.holds Tryd.pinned (OpenSpec.ofChange civilOfWrong)

/-- 'kalendslaw01.CivilDates': WHATEVER THE INPUT: true; the input reads as it did. -/
def civilDatesSpec : ChangeSpec := { name := "civilDates", fn := fun _ => fun
  | [d1, d2] => { results := [.lit (.bool true)], args := [d1, d2] }
  | _ => none }
def civilDatesRow : OpenClaim := { program := "ytdmjgfofcbfplaadoor", sum := "dae4f707534eb9881d3e2a76960da3777dfa2348b64a2b2f5d1c5b3c958db313", func := "kalends/kalendslaw01.CivilDates", spec := "civilDates", named := ["kalends/civil.months"], apart := false, laid := [("kalends/civil.months", laid_kalends_civil_months)] }
def CivilDatesSaid : Prop := civilDatesRow.holds Tryd.pinned (OpenSpec.ofChange civilDatesSpec)

/-- ITS FALSE NEIGHBOUR: 'it returns false'. Refute it at one input. -/
def civilDatesWrong : ChangeSpec := { name := "civilDates", fn := fun _ => fun
  | [d1, d2] => { results := [.lit (.bool false)], args := [d1, d2] }
  | _ => none }
def CivilDatesWrongFalsely : Prop := civilDatesRow.holds Tryd.pinned (OpenSpec.ofChange civilDatesWrong)

/-- 'kalendslaw01.CivilParses': WHATEVER THE INPUT: true; the input reads as it did. -/
def civilParsesSpec : ChangeSpec := { name := "civilParses", fn := fun _ => fun
  | [d] => { results := [.lit (.bool true)], args := [d] }
  | _ => none }
def civilParsesRow : OpenClaim := { program := "ytdmjgfofcbfplaadoor", sum := "dae4f707534eb9881d3e2a76960da3777dfa2348b64a2b2f5d1c5b3c958db313", func := "kalends/kalendslaw01.CivilParses", spec := "civilParses", named := ["kalends/civil.months"], apart := false, laid := [("kalends/civil.months", laid_kalends_civil_months)] }
def CivilParsesSaid : Prop := civilParsesRow.holds Tryd.pinned (OpenSpec.ofChange civilParsesSpec)

/-- ITS FALSE NEIGHBOUR: 'it returns false'. Refute it at one input. -/
def civilParsesWrong : ChangeSpec := { name := "civilParses", fn := fun _ => fun
  | [d] => { results := [.lit (.bool false)], args := [d] }
  | _ => none }
def CivilParsesWrongFalsely : Prop := civilParsesRow.holds Tryd.pinned (OpenSpec.ofChange civilParsesWrong)

/-- 'kalendslaw01.CivilNext': WHATEVER THE INPUT: true; the input reads as it did. -/
def civilNextSpec : ChangeSpec := { name := "civilNext", fn := fun _ => fun
  | [d1, d2] => { results := [.lit (.bool true)], args := [d1, d2] }
  | _ => none }
def civilNextRow : OpenClaim := { program := "ytdmjgfofcbfplaadoor", sum := "dae4f707534eb9881d3e2a76960da3777dfa2348b64a2b2f5d1c5b3c958db313", func := "kalends/kalendslaw01.CivilNext", spec := "civilNext", named := ["kalends/civil.months"], apart := false, laid := [("kalends/civil.months", laid_kalends_civil_months)] }
def CivilNextSaid : Prop := civilNextRow.holds Tryd.pinned (OpenSpec.ofChange civilNextSpec)

/-- ITS FALSE NEIGHBOUR: 'it returns false'. Refute it at one input. -/
def civilNextWrong : ChangeSpec := { name := "civilNext", fn := fun _ => fun
  | [d1, d2] => { results := [.lit (.bool false)], args := [d1, d2] }
  | _ => none }
def CivilNextWrongFalsely : Prop := civilNextRow.holds Tryd.pinned (OpenSpec.ofChange civilNextWrong)

/-- 'kalendslaw01.CivilYears': WHATEVER THE INPUT: true; the input reads as it did. -/
def civilYearsSpec : ChangeSpec := { name := "civilYears", fn := fun _ => fun
  | [d] => { results := [.lit (.bool true)], args := [d] }
  | _ => none }
def civilYearsRow : OpenClaim := { program := "ytdmjgfofcbfplaadoor", sum := "dae4f707534eb9881d3e2a76960da3777dfa2348b64a2b2f5d1c5b3c958db313", func := "kalends/kalendslaw01.CivilYears", spec := "civilYears", named := ["kalends/civil.months"], apart := false, laid := [("kalends/civil.months", laid_kalends_civil_months)] }
def CivilYearsSaid : Prop := civilYearsRow.holds Tryd.pinned (OpenSpec.ofChange civilYearsSpec)

/-- ITS FALSE NEIGHBOUR: 'it returns false'. Refute it at one input. -/
def civilYearsWrong : ChangeSpec := { name := "civilYears", fn := fun _ => fun
  | [d] => { results := [.lit (.bool false)], args := [d] }
  | _ => none }
def CivilYearsWrongFalsely : Prop := civilYearsRow.holds Tryd.pinned (OpenSpec.ofChange civilYearsWrong)

/-- 'kalendslaw01.CivilAges': WHATEVER THE INPUT: true; the input reads as it did. -/
def civilAgesSpec : ChangeSpec := { name := "civilAges", fn := fun _ => fun
  | [d1, d2, d3] => { results := [.lit (.bool true)], args := [d1, d2, d3] }
  | _ => none }
def civilAgesRow : OpenClaim := { program := "ytdmjgfofcbfplaadoor", sum := "dae4f707534eb9881d3e2a76960da3777dfa2348b64a2b2f5d1c5b3c958db313", func := "kalends/kalendslaw01.CivilAges", spec := "civilAges", named := ["kalends/civil.months"], apart := false, laid := [("kalends/civil.months", laid_kalends_civil_months)] }
def CivilAgesSaid : Prop := civilAgesRow.holds Tryd.pinned (OpenSpec.ofChange civilAgesSpec)

/-- ITS FALSE NEIGHBOUR: 'it returns false'. Refute it at one input. -/
def civilAgesWrong : ChangeSpec := { name := "civilAges", fn := fun _ => fun
  | [d1, d2, d3] => { results := [.lit (.bool false)], args := [d1, d2, d3] }
  | _ => none }
def CivilAgesWrongFalsely : Prop := civilAgesRow.holds Tryd.pinned (OpenSpec.ofChange civilAgesWrong)

/- THE SECOND FORM. 'bulk': how many values and letters a reading holds, each counted each time it is reached (what is shared counts as often as it is met; a slice's spare places count too). A statement '..UptoSaid' is the law's where the arguments, and the package variables that the reading takes, are together of bulk at most 1048576: NARROWER than '..Said'. Prove '..Said' where nothing that the law and all that it calls make is longer than what came in: it says more and counts as full. Else prove '..UptoSaid'. A law counts once. -/
mutual
def uptoBulk {H : Type} : DataW H → Nat
  | .lit (.string bytes) => bytes.length + 1
  | .lit _ => 1
  | .nil => 1
  | .ptr d => uptoBulk d + 1
  | .slice elems spare => uptoBulkAll elems + uptoBulkAll spare + 1
  | .agg parts => uptoBulkAll parts + 1
  | .iface _ d => uptoBulk d + 1
  | .map entries => uptoBulkEntries entries + 1
  | .held _ => 1
def uptoBulkAll {H : Type} : List (DataW H) → Nat
  | [] => 0
  | d :: r => uptoBulk d + uptoBulkAll r
def uptoBulkEntries {H : Type} : List (Lit × DataW H) → Nat
  | [] => 0
  | x :: r => uptoBulkEntry x + uptoBulkEntries r
def uptoBulkEntry {H : Type} : Lit × DataW H → Nat
  | (.string bytes, d) => bytes.length + uptoBulk d + 1
  | (_, d) => uptoBulk d + 1
 end
def uptoSmall : (H : Type) → List (DataW H) → Bool := fun _ ds => decide (uptoBulkAll ds ≤ 1048576)
def OpenSpec.upto (s : _root_.Go.ChangeSpec) : _root_.Go.OpenSpec := { _root_.Go.OpenSpec.ofChange s with cond := some uptoSmall }

/-- 'kalendslaw01.CivilLong', WHERE WHAT IT READS IS OF BULK AT MOST 1048576: true; the input reads as it did. -/
def civilLongUptoRow : OpenClaim := { program := "ytdmjgfofcbfplaadoor", sum := "dae4f707534eb9881d3e2a76960da3777dfa2348b64a2b2f5d1c5b3c958db313", func := "kalends/kalendslaw01.CivilLong", spec := "civilLong", named := ["kalends/civil.months"], apart := false, laid := [("kalends/civil.months", laid_kalends_civil_months)], narrowed := true }
def CivilLongUptoSaid : Prop := civilLongUptoRow.holds Tryd.pinned (OpenSpec.upto civilLongSpec)

/-- 'kalendslaw01.CivilOf', WHERE WHAT IT READS IS OF BULK AT MOST 1048576: true; the input reads as it did. -/
def civilOfUptoRow : OpenClaim := { program := "ytdmjgfofcbfplaadoor", sum := "dae4f707534eb9881d3e2a76960da3777dfa2348b64a2b2f5d1c5b3c958db313", func := "kalends/kalendslaw01.CivilOf", spec := "civilOf", named := ["kalends/civil.months"], apart := false, laid := [("kalends/civil.months", laid_kalends_civil_months)], narrowed := true }
def CivilOfUptoSaid : Prop := civilOfUptoRow.holds Tryd.pinned (OpenSpec.upto civilOfSpec)

/-- 'kalendslaw01.CivilDates', WHERE WHAT IT READS IS OF BULK AT MOST 1048576: true; the input reads as it did. -/
def civilDatesUptoRow : OpenClaim := { program := "ytdmjgfofcbfplaadoor", sum := "dae4f707534eb9881d3e2a76960da3777dfa2348b64a2b2f5d1c5b3c958db313", func := "kalends/kalendslaw01.CivilDates", spec := "civilDates", named := ["kalends/civil.months"], apart := false, laid := [("kalends/civil.months", laid_kalends_civil_months)], narrowed := true }
def CivilDatesUptoSaid : Prop := civilDatesUptoRow.holds Tryd.pinned (OpenSpec.upto civilDatesSpec)

/-- 'kalendslaw01.CivilParses', WHERE WHAT IT READS IS OF BULK AT MOST 1048576: true; the input reads as it did. -/
def civilParsesUptoRow : OpenClaim := { program := "ytdmjgfofcbfplaadoor", sum := "dae4f707534eb9881d3e2a76960da3777dfa2348b64a2b2f5d1c5b3c958db313", func := "kalends/kalendslaw01.CivilParses", spec := "civilParses", named := ["kalends/civil.months"], apart := false, laid := [("kalends/civil.months", laid_kalends_civil_months)], narrowed := true }
def CivilParsesUptoSaid : Prop := civilParsesUptoRow.holds Tryd.pinned (OpenSpec.upto civilParsesSpec)

/-- 'kalendslaw01.CivilNext', WHERE WHAT IT READS IS OF BULK AT MOST 1048576: true; the input reads as it did. -/
def civilNextUptoRow : OpenClaim := { program := "ytdmjgfofcbfplaadoor", sum := "dae4f707534eb9881d3e2a76960da3777dfa2348b64a2b2f5d1c5b3c958db313", func := "kalends/kalendslaw01.CivilNext", spec := "civilNext", named := ["kalends/civil.months"], apart := false, laid := [("kalends/civil.months", laid_kalends_civil_months)], narrowed := true }
def CivilNextUptoSaid : Prop := civilNextUptoRow.holds Tryd.pinned (OpenSpec.upto civilNextSpec)

/-- 'kalendslaw01.CivilYears', WHERE WHAT IT READS IS OF BULK AT MOST 1048576: true; the input reads as it did. -/
def civilYearsUptoRow : OpenClaim := { program := "ytdmjgfofcbfplaadoor", sum := "dae4f707534eb9881d3e2a76960da3777dfa2348b64a2b2f5d1c5b3c958db313", func := "kalends/kalendslaw01.CivilYears", spec := "civilYears", named := ["kalends/civil.months"], apart := false, laid := [("kalends/civil.months", laid_kalends_civil_months)], narrowed := true }
def CivilYearsUptoSaid : Prop := civilYearsUptoRow.holds Tryd.pinned (OpenSpec.upto civilYearsSpec)

/-- 'kalendslaw01.CivilAges', WHERE WHAT IT READS IS OF BULK AT MOST 1048576: true; the input reads as it did. -/
def civilAgesUptoRow : OpenClaim := { program := "ytdmjgfofcbfplaadoor", sum := "dae4f707534eb9881d3e2a76960da3777dfa2348b64a2b2f5d1c5b3c958db313", func := "kalends/kalendslaw01.CivilAges", spec := "civilAges", named := ["kalends/civil.months"], apart := false, laid := [("kalends/civil.months", laid_kalends_civil_months)], narrowed := true }
def CivilAgesUptoSaid : Prop := civilAgesUptoRow.holds Tryd.pinned (OpenSpec.upto civilAgesSpec)

end Rows
end Go.Proofs.YtdmjgfofcbfplaaDoor
