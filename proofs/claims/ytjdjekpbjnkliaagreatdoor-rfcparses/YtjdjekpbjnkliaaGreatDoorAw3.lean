/-
  The fixed call of stage 3 returns true, from every world that holds the tables: by reckoning.
-/
import Derived.Test.YtjdjekpbjnkliaaGreatDoorAx3
import Derived.Test.YtjdjekpbjnkliaaGreatDoorEvT
import Derived.Test.YtjdjekpbjnkliaaGreatDoorShelf
import Derived.Test.YtjdjekpbjnkliaaGreatDoorRf0
namespace Go.Proofs.YtjdjekpbjnkliaaGreatDoor
open Go Go.RowKit
theorem known_ok [Ltr] {w : World} (hT : TabsE tabs w) {base : Nat} : ∀ e ∈ known, PEOk Tryz.prog (kep w) base e := by
  have hM : ∀ w' : World, (∀ b, (kep w) b → w'.heap[b]? = (kep w).ob b) → Months w' := fun w' k => tabs_months (hT.keep k)
  intro e he
  simp only [known, List.mem_cons, List.not_mem_nil, or_false] at he
  rcases he with rfl | rfl | rfl | rfl | rfl
  · exact joinP_ok Tryz.strings_Join
  · exact dateP_ok hM
  · exact ofP_ok hM
  · exact longP_ok hM
  · exact weekP_ok
theorem awk3 (w : World) (hT : TabsE tabs w) : Calls Tryz.prog 5 #[] w fun e w' => e = .returned (.bool true) ∧ Below w.heap.size w w' :=
  @run_fixed Tryz.prog noLtr noOrc w tabs 64 (@noOrc_ok noLtr _ _ _ _) ([] ++ known) (by kernel_rfl) 5 (.bool true) hT (by kernel_rfl) (fun x hx => (List.mem_append.1 hx).elim (fun h => by cases h) (@known_ok noLtr w hT 64 x)) 400 rfl comes3
theorem tabsE_of {w : World} (h : Tabs w) : TabsE tabs w := by
  refine ac ?_ (ac ?_ (ac ?_ (ac ?_ (ac ?_ an))))
  · intro j v hj
    have hlt : j < tMon.length := (List.getElem?_eq_some_iff.1 hj).1
    have hl : j < 12 := hlt
    have hm := h.mon ((j : Int) + 1) (by omega) (by omega)
    have e : j = 0 ∨ j = 1 ∨ j = 2 ∨ j = 3 ∨ j = 4 ∨ j = 5 ∨ j = 6 ∨ j = 7 ∨ j = 8 ∨ j = 9 ∨ j = 10 ∨ j = 11 := by omega
    rcases e with rfl | rfl | rfl | rfl | rfl | rfl | rfl | rfl | rfl | rfl | rfl | rfl <;> (obtain rfl := Option.some.inj hj; exact hm)
  · intro j v hj
    have hl : j < 8 := (List.getElem?_eq_some_iff.1 hj).1
    have hm := h.pn j hl
    have e : j = 0 ∨ j = 1 ∨ j = 2 ∨ j = 3 ∨ j = 4 ∨ j = 5 ∨ j = 6 ∨ j = 7 := by omega
    rcases e with rfl | rfl | rfl | rfl | rfl | rfl | rfl | rfl <;> (obtain rfl := Option.some.inj hj; exact hm)
  · intro j v hj
    have hl : j < 4 := (List.getElem?_eq_some_iff.1 hj).1
    have hm := h.fq j hl
    have e : j = 0 ∨ j = 1 ∨ j = 2 ∨ j = 3 := by omega
    rcases e with rfl | rfl | rfl | rfl <;> (obtain rfl := Option.some.inj hj; exact hm)
  · intro j v hj
    have hl : j < 7 := (List.getElem?_eq_some_iff.1 hj).1
    have hm := h.wd j hl
    have e : j = 0 ∨ j = 1 ∨ j = 2 ∨ j = 3 ∨ j = 4 ∨ j = 5 ∨ j = 6 := by omega
    rcases e with rfl | rfl | rfl | rfl | rfl | rfl | rfl <;> (obtain rfl := Option.some.inj hj; exact hm)
  · intro j v hj
    have hlt : j < Lib.pow10Tab.length := (List.getElem?_eq_some_iff.1 hj).1
    have hc := h.pow.cell (g := 11) (by kernel_rfl) j hlt
    rw [hc]
    have hl : j < 20 := hlt
    have e : j = 0 ∨ j = 1 ∨ j = 2 ∨ j = 3 ∨ j = 4 ∨ j = 5 ∨ j = 6 ∨ j = 7 ∨ j = 8 ∨ j = 9 ∨ j = 10 ∨ j = 11 ∨ j = 12 ∨ j = 13 ∨ j = 14 ∨ j = 15 ∨ j = 16 ∨ j = 17 ∨ j = 18 ∨ j = 19 := by omega
    rcases e with rfl | rfl | rfl | rfl | rfl | rfl | rfl | rfl | rfl | rfl | rfl | rfl | rfl | rfl | rfl | rfl | rfl | rfl | rfl | rfl <;> (obtain rfl := Option.some.inj hj; rfl)
theorem awake3 (w : World) (hT : Tabs w) : Calls Tryz.prog 5 #[] w fun e w' => ∃ v, e = .returned v ∧ v = .bool true ∧ Below w.heap.size w w' :=
  (awk3 w (tabsE_of hT)).mono fun _ _ p => ⟨_, p.1, rfl, p.2⟩
end Go.Proofs.YtjdjekpbjnkliaaGreatDoor
