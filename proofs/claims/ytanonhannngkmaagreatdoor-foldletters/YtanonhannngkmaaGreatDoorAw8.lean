/-
  The fixed call of stage 8 returns true.
-/
import Derived.Test.YtanonhannngkmaaGreatDoorTw1
import Derived.Test.YtanonhannngkmaaGreatDoorTw2
namespace Go.Proofs.YtanonhannngkmaaGreatDoor
open Go Go.RowKit
/-- is it a word? -/
def wordP (args : List Value) (_ : RW) : Option Value :=
  match args with
  | [.string s] => some (.bool (Tbl.isW s.data.toList))
  | _ => none
theorem wordP_ok [Ltr] {X : Kep} {base : Nat} : PEOk Tryz.prog X base (45, wordP) := by
  intro args H u E w args' hR ha e
  dsimp only [wordP] at e
  split at e
  · rename_i s
    obtain rfl := Option.some.inj e
    cases ha with
    | cons h1 t1 =>
      cases t1
      rw [h1.flat_eq rfl]
      exact (word_any s w).mono fun e w' p => ⟨_, p.1, .same rfl, p.2⟩
  · cases e
set_option maxRecDepth 100000 in
theorem comes8 : (callEv Tryz.prog (prL [(24, fixP (.bool true)), (45, wordP)]) 64 (@codeQ noOrc Tryz.prog (prL [(24, fixP (.bool true)), (45, wordP)]) 64 64 400 false) 18 [] ⟨64, []⟩).map (·.1) = some (.bool true) := by kernel_rfl
theorem awk8 (w : World) (hT : TabsE tabs w) : Calls Tryz.prog 18 #[] w fun e w' => e = .returned (.bool true) ∧ Below w.heap.size w w' :=
  @run_fixed Tryz.prog noLtr noOrc w [] 64 (@noOrc_ok noLtr _ _ _ _) _ mixed _ (.bool true) an rfl (ac (@fixP_ok _ _ _ noLtr _ _ rfl fun w' k => awk7 w' (hT.keep k)) (ac (@wordP_ok noLtr _ _) an)) 400 rfl comes8
end Go.Proofs.YtanonhannngkmaaGreatDoor
