/-
  Plain: a number's last digits, by its decimal text and by division.
-/
import Derived.Lib.ItoaNum
import Derived.Lib.Strings
import Derived.Test.YtjfchpfbpmediaaGreatDoorEvT
import Derived.Test.YtjfchpfbpmediaaGreatDoorShelf
import Derived.Lib.ItoaLen
namespace Go.Proofs.YtjfchpfbpmediaaGreatDoor.Plu
open Go.Lib
end Go.Proofs.YtjfchpfbpmediaaGreatDoor.Plu
/-
  Contracts of plural's endsInTeen, isFew, Form, over letters.
-/
namespace Go.Proofs.YtjfchpfbpmediaaGreatDoor
open Go Go.RowKit
end Go.Proofs.YtjfchpfbpmediaaGreatDoor
/-
  The law's Form, over letters: Itoa and HasSuffix by the shelf's contracts.
-/
namespace Go.Proofs.YtjfchpfbpmediaaGreatDoor
open Go Go.RowKit
/-- the table that Itoa reads -/
def Pow (w : World) : Prop := Lib.TabIs Tryz.prog w "internal/strconv.uint64pow10" .u64 Lib.pow10Tab
theorem Pow.keep {w w' : World} (h : Pow w) (k : ∀ b, (kep w) b → w'.heap[b]? = (kep w).ob b) : Pow w' := by
  unfold Pow Lib.TabIs World.var? at *
  cases hg : Tryz.prog.globalNamed "internal/strconv.uint64pow10" with
  | none => simp [hg] at h
  | some g =>
    simp only [hg, Option.bind_some] at h ⊢
    have hlt : g < w.heap.size := by
      rcases Nat.lt_or_ge g w.heap.size with h' | h'
      · exact h'
      · rw [Array.getElem?_eq_none h'] at h; simp at h
    rw [show w'.heap[g]? = w.heap[g]? from k g hlt]
    exact h
section
variable {X : Kep} {base : Nat}
end
end Go.Proofs.YtjfchpfbpmediaaGreatDoor
