/-
  table: slices.Contains over texts; the law's word.
-/
import Derived.Test.YtjfchpfbpmediaaGreatDoorTx4
namespace Go.Proofs.YtjfchpfbpmediaaGreatDoor
open Go Go.RowKit
namespace Tbl
end Tbl
/-- texts in memory: a slice of them -/
def TextsIn (w : World) (S : Value) (l : List ByteArray) : Prop := l.length ≤ 1000000 ∧ ∃ A cp, S = .slice A l.length cp ∧ ∀ (j : Nat) x, l[j]? = some x → ∃ a : Addr, A = some a ∧ elOf S j = a.add j ∧ w.cell? (a.add j) = some (.string x)
theorem TextsIn.keep {w w' : World} {S : Value} {l : List ByteArray} (h : TextsIn w S l) (k : ∀ b, (kep w) b → w'.heap[b]? = (kep w).ob b) : TextsIn w' S l := by
  obtain ⟨h1, A, cp, h2, h3⟩ := h
  refine ⟨h1, A, cp, h2, fun j x hj => ?_⟩
  obtain ⟨a, h4, h5, h6⟩ := h3 j x hj
  exact ⟨a, h4, h5, cell_keep h6 k⟩
end Go.Proofs.YtjfchpfbpmediaaGreatDoor
/-
  table: the law's word.
-/
namespace Go.Proofs.YtjfchpfbpmediaaGreatDoor
open Go Go.RowKit
namespace Tbl
end Tbl
def byteAt (s : ByteArray) (p : Nat) : Nat := (s.data.toList.getD p 0).toNat
/-- a letter stands ahead -/
def inn (s : ByteArray) (i : Nat) : Bool := decide (0 < i) && !decide (byteAt s (i - 1) = 32)
end Go.Proofs.YtjfchpfbpmediaaGreatDoor
