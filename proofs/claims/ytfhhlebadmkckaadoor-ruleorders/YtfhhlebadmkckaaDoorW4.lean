/-
  The law's Awake: the fixed fact of the chapter's example.
-/
import Derived.Test.YtfhhlebadmkckaaDoorW3
namespace Go.Proofs.YtfhhlebadmkckaaDoor
open Go.RowKit

theorem Months.pos {w : World} (h : Months w) : 0 < w.heap.size := by
  have h1 := h 1 (by omega) (by omega)
  rcases Nat.lt_or_ge 0 w.heap.size with h0 | h0
  · exact h0
  · have e : w.heap[0]? = none := Array.getElem?_eq_none h0
    simp [World.cell?, e] at h1
theorem Months.grown {w w' : World} (h : Months w) (hb : Below w.heap.size w w') : Months w' := h.below hb h.pos

theorem one_is : Cal.Is 1 1 1 1 := by
  refine ⟨by decide, by decide, by decide, by decide, by decide, by decide, by decide⟩
theorem txt_one : txt 1 1 1 = ⟨#[48, 48, 48, 49, 45, 48, 49, 45, 48, 49]⟩ := by decide
theorem num_one : Cal.num 1 1 1 = 1 := by decide

set_option maxHeartbeats 400000 in
theorem awake (w : World) (hM : Months w) : Calls Tryd.prog 14 #[] w fun e w' => e = .returned (.bool true) ∧ Below w.heap.size w w' := by
  go_enter Tryd.func14, Tryd.ntmps14
  go_wp2_with fail
  refine (of_yes 1 1 1 _ hM (by decide) (by decide) (by decide) (by decide) (by decide) (by decide)).mono ?_
  rintro e w' ⟨rfl, rfl⟩
  rw [num_one]
  go_wp2_with fail
  refine (text_yes 1 1 1 1 _ hM one_is).mono ?_
  rintro e wa ⟨rfl, b1⟩
  rw [txt_one]
  go_wp2_with fail
  refine (weekday_yes 1 _ (by decide) (by decide)).mono ?_
  rintro e w' ⟨rfl, rfl⟩
  go_wp2_with fail
  refine (weekday_yes 8 _ (by decide) (by decide)).mono ?_
  rintro e w' ⟨rfl, rfl⟩
  go_wp2_with fail
  refine (weekday_yes 7 _ (by decide) (by decide)).mono ?_
  rintro e w' ⟨rfl, rfl⟩
  go_wp2
  go_ret
  exact ⟨rfl, b1⟩
end Go.Proofs.YtfhhlebadmkckaaDoor
