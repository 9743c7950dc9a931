/-
  The fixed calls of the stages return true, from every world that holds the tables.
-/
import Derived.Test.YtnggajehngemmaaGreatDoorAx3
import Derived.Test.YtnggajehngemmaaGreatDoorAx4
import Derived.Test.YtnggajehngemmaaGreatDoorShelf
namespace Go.Proofs.YtnggajehngemmaaGreatDoor
open Go Go.RowKit
theorem known_ok [Ltr] {w : World} (hT : TabsE tabs w) {base : Nat} : ∀ e ∈ known, PEOk Tryz.prog (kep w) base e := by
  have hM : ∀ w' : World, (∀ b, (kep w) b → w'.heap[b]? = (kep w).ob b) → Months w' := fun w' k => tabs_months (hT.keep k)
  intro e he
  simp only [known, List.mem_cons, List.not_mem_nil, or_false] at he
  rcases he with rfl | rfl | rfl | rfl | rfl
  · exact joinP_ok Tryz.strings_Join
  · exact dateP_ok hM
  · exact ofP_ok hM
  · exact longP_ok hM
  · exact weekP_ok
/-- a fixed call: by reckoning, the calls of l known -/
theorem fixed {f : FuncId} {l : List PE} {w : World} (hT : TabsE tabs w) (hl : ∀ e ∈ l, @PEOk noLtr Tryz.prog (kep w) 64 e) (n : Nat) (e : Comes l n f) :
    Calls Tryz.prog f #[] w fun e w' => e = .returned (.bool true) ∧ Below w.heap.size w w' :=
  @run_fixed Tryz.prog noLtr noOrc w tabs 64 (@noOrc_ok noLtr _ _ _ _) (l ++ known) (by kernel_rfl) f (.bool true) hT (by kernel_rfl) (fun x hx => (List.mem_append.1 hx).elim (hl x) (@known_ok noLtr w hT 64 x)) n rfl e
theorem fixed_awk {g f : FuncId} (h : ∀ w, TabsE tabs w → Calls Tryz.prog g #[] w fun e w' => e = .returned (.bool true) ∧ Below w.heap.size w w') {w : World} (hT : TabsE tabs w) (n : Nat) (e : Comes [(g, fixP (.bool true))] n f) :
    Calls Tryz.prog f #[] w fun e w' => e = .returned (.bool true) ∧ Below w.heap.size w w' := by
  refine fixed hT (fun x hx => ?_) n e
  obtain rfl := List.mem_singleton.1 hx
  exact @fixP_ok _ _ _ noLtr _ _ rfl fun w' k => h w' (hT.keep k)
theorem awk3 (w : World) (hT : TabsE tabs w) : Calls Tryz.prog 22 #[] w fun e w' => e = .returned (.bool true) ∧ Below w.heap.size w w' := fixed hT (fun x hx => by cases hx) 400 comes3
theorem awk4 (w : World) (hT : TabsE tabs w) : Calls Tryz.prog 7 #[] w fun e w' => e = .returned (.bool true) ∧ Below w.heap.size w w' := fixed_awk awk3 hT 400 comes4
end Go.Proofs.YtnggajehngemmaaGreatDoor
