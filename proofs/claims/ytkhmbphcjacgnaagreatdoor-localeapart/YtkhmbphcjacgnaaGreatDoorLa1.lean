/-
  The law LocaleApart over letters: its known calls, its run from a language and a category.
-/
import Derived.Test.YtkhmbphcjacgnaaGreatDoorBs9
import Derived.Test.YtkhmbphcjacgnaaGreatDoorEm
namespace Go.Proofs.YtkhmbphcjacgnaaGreatDoor
open Go Go.RowKit
def laT (r : Nat) : List OE := [binE .rem (Lt 0) (.int .u8 (4 : Nat)) (.int .u8 r)]
set_option maxRecDepth 100000 in
theorem la_tab : ((List.range 4).all fun r => keeps true 64 (callEv Tryz.prog mkP 64 (@codeQ (orcG 64 64 (laT r) [] []) Tryz.prog mkP 64 64 100 false) 9 [Lt 0] ⟨64, []⟩) Loc.tabK (.pointer (some ⟨0, 0, none⟩)) (Loc.tab r)) = true := by kernel_rfl
noncomputable def laP (r : Nat) : Prim := orP (prL [(5, fixP (.bool true))]) (stP 9 [Lt 0] (.pointer (some ⟨0, 0, none⟩)) (Loc.tab r))
def laO (r c : Nat) : List OE := laT r ++ [binE .rem (Lt 1) (.int .u8 (15 : Nat)) (.int .u8 c)]
noncomputable def laRun (r c : Nat) : Option (Value × RW) := callEv Tryz.prog (laP r) 64 (@codeQ (orcG 64 64 (laO r c) [delE Tryz.prog 64] []) Tryz.prog (laP r) 64 64 100 false) 4 [Lt 0, Lt 1] ⟨64, []⟩
end Go.Proofs.YtkhmbphcjacgnaaGreatDoor
