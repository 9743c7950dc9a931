/-
  locale: the functions that make the tables, as known calls; the fixed call of stage 9 returns true.
-/
import Derived.Test.YtkhmbphcjacgnaaGreatDoorLo3
import Derived.Test.YtkhmbphcjacgnaaGreatDoorLo4
import Derived.Test.YtkhmbphcjacgnaaGreatDoorAw8
namespace Go.Proofs.YtkhmbphcjacgnaaGreatDoor
open Go Go.RowKit
noncomputable def madeP (f : FuncId) (i : Nat) : Prim := stP f [] (.pointer (some ⟨0, 0, none⟩)) (Loc.tab i)
noncomputable def mkP : Prim := orP (madeP 23 0) (orP (madeP 24 1) (orP (madeP 25 2) (madeP 26 3)))
theorem st_start [Ltr] (w : World) : ∃ E0, Rep (kep w) 64 E0 ⟨64, []⟩ w ∧ Gl 64 E0 := ⟨startE 64, rep_start (T := []) an rfl, fun g hg => ⟨0, by unfold startE; rw [show Nat.blt g 64 = true by simpa [Nat.blt_eq] using hg]; rfl⟩⟩
theorem madeP_ok {L : Ltr} {X : Kep} {base : Nat} (hm : ∀ w : World, (∀ b, X b → w.heap[b]? = X.ob b) → MaxIn w) {f : FuncId} {i : Nat} (e : keeps false 64 (callEv Tryz.prog splitP 64 (@codeQ noOrc Tryz.prog splitP 64 64 400 false) f [] ⟨64, []⟩) Loc.tabK (.pointer (some ⟨0, 0, none⟩)) (Loc.tab i) = true) : @PrimOk L Tryz.prog (madeP f i) 64 X base :=
  @stP_ok noLtr L noOrc false (fun h => by cases h) Tryz.prog splitP 64 64 base X mixed (fun w _ => @noOrc_ok noLtr _ _ _ _) 400 f [] ⟨64, []⟩ Loc.tabK _ _ (fun w k => ⟨@st_start noLtr w, @splitP_ok noLtr _ _ _ fun w' k' => (hm w k).keep k'⟩) rfl e
theorem mkP_ok {L : Ltr} {X : Kep} {base : Nat} (hm : ∀ w : World, (∀ b, X b → w.heap[b]? = X.ob b) → MaxIn w) : @PrimOk L Tryz.prog mkP 64 X base :=
  @orP_ok L _ _ _ _ _ (madeP_ok hm lo_made0) (@orP_ok L _ _ _ _ _ (madeP_ok hm lo_made1) (@orP_ok L _ _ _ _ _ (madeP_ok hm lo_made2) (madeP_ok hm lo_made3)))
noncomputable def aw9P : Prim := orP (prL [(13, fixP (.bool true))]) mkP
set_option maxRecDepth 100000 in
theorem comes9 : (callEv Tryz.prog aw9P 64 (@codeQ (orcG 64 64 [] [] []) Tryz.prog aw9P 64 64 200 false) 5 [] ⟨64, []⟩).map (·.1) = some (.bool true) := by kernel_rfl
theorem awk9 (w : World) (hT : TabsE tabs w) (hM : MaxIn w) : Calls Tryz.prog 5 #[] w fun e w' => e = .returned (.bool true) ∧ Below w.heap.size w w' :=
  symP noLtr 200 an an an (@orP_ok noLtr _ _ _ _ _ (@prL_ok _ _ _ noLtr _ _ (ac (@fixP_ok _ _ _ noLtr _ _ rfl fun w' k => awk8 w' (hT.keep k)) an)) (mkP_ok fun _ k => hM.keep k)) (@RelL.nil noLtr _) rfl comes9
end Go.Proofs.YtkhmbphcjacgnaaGreatDoor
