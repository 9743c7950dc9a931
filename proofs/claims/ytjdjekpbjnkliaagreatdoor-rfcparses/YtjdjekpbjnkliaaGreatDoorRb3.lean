/-
  The law's own Print: a rule's text.
-/
import Derived.Test.YtjdjekpbjnkliaaGreatDoorRf2
import Derived.Test.YtjdjekpbjnkliaaGreatDoorW5
namespace Go.Proofs.YtjdjekpbjnkliaaGreatDoor
open Go.RowKit
namespace Rfc
end Rfc
structure Tabs3 (w : World) : Prop where
  t : Tabs w
  lf : ∃ A c, w.cell? ⟨0, 0, none⟩ = some (.slice (some A) 4 c) ∧ ∀ i, i < 4 → w.cell? (A.add i) = some (.string ⟨(Rfc.fq i).toArray⟩)
  lw : ∃ A c, w.cell? ⟨1, 0, none⟩ = some (.slice (some A) 7 c) ∧ ∀ i, i < 7 → w.cell? (A.add i) = some (.string ⟨(Rfc.wd i).toArray⟩)
theorem Tabs3.below {w w' : World} (h : Tabs3 w) (b : Below w.heap.size w w') : Tabs3 w' where
  t := h.t.below b
  lf := by obtain ⟨A, c, h1, h2⟩ := h.lf; exact ⟨A, c, cell_stays h1 b, fun i hi => cell_stays (h2 i hi) b⟩
  lw := by obtain ⟨A, c, h1, h2⟩ := h.lw; exact ⟨A, c, cell_stays h1 b, fun i hi => cell_stays (h2 i hi) b⟩
section
variable {w : World} {ρ : Operand → Value} {o : Oper} {x y : Operand} {k c i n : Nat} {A : Option Addr} {ad : Addr} {v : Value} {b : ByteArray}
theorem k_loadSS (ho : o.op = .load 42 x) (hx : ρ x = .pointer (some ad)) (hc : w.cell? ad = some (.slice A n c)) : (execOp ρ o).run Tryz.prog w = .ok (.value (.slice A n c)) w := by
  simp only [execOp, ho, hx]
  go_simp
theorem k_atSA (ho : o.op = .indexAddr 42 x y) (hx : ρ x = .slice (some ad) k c) (hy : ρ y = .int .i64 i) (hi : i < k) : (execOp ρ o).run Tryz.prog w = .ok (.value (.pointer (some (ad.add i)))) w := by
  simp only [execOp, ho]
  go_simp
end
end Go.Proofs.YtjdjekpbjnkliaaGreatDoor
