/-
  Guards of operations; one operation over a frame that is a letter.
-/
import Derived.Test.YtocpmljkmdpfkaaGreatDoorR7a
import Derived.Test.YtocpmljkmdpfkaaGreatDoorR18j
namespace Go.Proofs.YtocpmljkmdpfkaaGreatDoor
open Go.RowKit
section
variable {P : Program} {ops : Array Oper} {Q : Exit → Act → World → Prop} {a : Act} {w : World}
theorem wanted_at {o : Oper} {t : Array Value} {j d : Nat} {want b : Bool} (hg : o.guard = some (j, want)) (hj : (ops[j]?).bind (·.dst) = some d) (hv : t.getD d undef = .bool b) :
    Region.wanted o (yielded ops t) = (b == want) := by
  have hd : d < t.size := by
    apply Classical.byContradiction
    intro h
    simp [Array.getD, h, undef] at hv
  have h2 : t[d]? = some (.bool b) := by
    rw [Array.getElem?_eq_getElem hd]
    simpa [Array.getD, hd] using hv
  simp only [Region.wanted, hg, yielded, hj, Option.bind_some, h2]
  cases b <;> cases want <;> rfl
theorem Keep.step {lo hi x d : Nat} {t u u' : Array Value} (h : Keep lo hi x t u) (z : u'.size = u.size) (n : ∀ k, k ≠ d → u'.getD k undef = u.getD k undef) (hd : d = x ∨ lo ≤ d ∧ d ≤ hi) : Keep lo hi x t u' :=
  ⟨z.trans h.1, fun k h1 h2 => (n k (by omega)).trans (h.2 k h1 h2)⟩
end
end Go.Proofs.YtocpmljkmdpfkaaGreatDoor
