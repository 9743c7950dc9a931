/-
  The law's Awake: the fixed fact of the chapter's example.
-/
import Derived.Test.YtgfekmpgnofhbaaGreatDoorW3
namespace Go.Proofs.YtgfekmpgnofhbaaGreatDoor
open Go.RowKit

theorem Months.pos {w : World} (h : Months w) : 0 < w.heap.size := by
  have h1 := h 1 (by omega) (by omega)
  rcases Nat.lt_or_ge 0 w.heap.size with h0 | h0
  · exact h0
  · have e : w.heap[0]? = none := Array.getElem?_eq_none h0
    simp [World.cell?, e] at h1
theorem Months.grown {w w' : World} (h : Months w) (hb : Below w.heap.size w w') : Months w' := h.below hb h.pos

end Go.Proofs.YtgfekmpgnofhbaaGreatDoor
