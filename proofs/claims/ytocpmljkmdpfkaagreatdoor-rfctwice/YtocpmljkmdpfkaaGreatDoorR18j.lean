/-
  One operation's answer, for an operation known by its text.
-/
import Derived.Test.YtocpmljkmdpfkaaGreatDoorR3
namespace Go.Proofs.YtocpmljkmdpfkaaGreatDoor
open Go.RowKit
theorem ev_tmp {a : Act} {t : Nat} {v : Value} (h : a.tmps.getD t undef = v) : a.eval (.tmp t) = v := h
section
variable {P : Program} {w : World} {ρ : Operand → Value} {o : Oper}
theorem k_move {x : Operand} {v : Value} (ho : o.op = .move x) (hx : ρ x = v) : (execOp ρ o).run P w = .ok (.value v) w := by
  simp only [execOp, ho, hx]; rfl
theorem k_pick_yes {c x y : Operand} {v : Value} (ho : o.op = .pick c x y) (hc : ρ c = .bool true) (hx : ρ x = v) : (execOp ρ o).run P w = .ok (.value v) w := by
  simp only [execOp, ho, hc, hx]; rfl
theorem k_pick_no {c x y : Operand} {v : Value} (ho : o.op = .pick c x y) (hc : ρ c = .bool false) (hy : ρ y = v) : (execOp ρ o).run P w = .ok (.value v) w := by
  simp only [execOp, ho, hc, hy]; rfl
end
section
variable {w : World} {ρ : Operand → Value} {o : Oper} {x y : Operand} {b : Nat} {ad : Addr} {v : Value}
theorem k_field0 (ho : o.op = .fieldAddr 36 x 0) (hx : ρ x = .pointer (some ⟨b, 0, none⟩)) : (execOp ρ o).run Tryz.prog w = .ok (.value (.pointer (some ⟨b, 0, none⟩))) w := by
  simp only [execOp, ho, hx]
  go_simp
theorem k_field1 (ho : o.op = .fieldAddr 36 x 1) (hx : ρ x = .pointer (some ⟨b, 0, none⟩)) : (execOp ρ o).run Tryz.prog w = .ok (.value (.pointer (some ⟨b, 1, none⟩))) w := by
  simp only [execOp, ho, hx]
  go_simp
theorem k_field2 (ho : o.op = .fieldAddr 36 x 2) (hx : ρ x = .pointer (some ⟨b, 0, none⟩)) : (execOp ρ o).run Tryz.prog w = .ok (.value (.pointer (some ⟨b, 2, none⟩))) w := by
  simp only [execOp, ho, hx]
  go_simp
theorem k_field3 (ho : o.op = .fieldAddr 36 x 3) (hx : ρ x = .pointer (some ⟨b, 0, none⟩)) : (execOp ρ o).run Tryz.prog w = .ok (.value (.pointer (some ⟨b, 3, none⟩))) w := by
  simp only [execOp, ho, hx]
  go_simp
theorem k_field4 (ho : o.op = .fieldAddr 36 x 4) (hx : ρ x = .pointer (some ⟨b, 0, none⟩)) : (execOp ρ o).run Tryz.prog w = .ok (.value (.pointer (some ⟨b, 4, none⟩))) w := by
  simp only [execOp, ho, hx]
  go_simp
theorem k_field5 (ho : o.op = .fieldAddr 36 x 5) (hx : ρ x = .pointer (some ⟨b, 0, none⟩)) : (execOp ρ o).run Tryz.prog w = .ok (.value (.pointer (some ⟨b, 5, none⟩))) w := by
  simp only [execOp, ho, hx]
  go_simp
theorem k_field6 (ho : o.op = .fieldAddr 36 x 6) (hx : ρ x = .pointer (some ⟨b, 0, none⟩)) : (execOp ρ o).run Tryz.prog w = .ok (.value (.pointer (some ⟨b, 6, none⟩))) w := by
  simp only [execOp, ho, hx]
  go_simp
theorem k_field7 (ho : o.op = .fieldAddr 36 x 7) (hx : ρ x = .pointer (some ⟨b, 0, none⟩)) : (execOp ρ o).run Tryz.prog w = .ok (.value (.pointer (some ⟨b, 7, none⟩))) w := by
  simp only [execOp, ho, hx]
  go_simp
theorem k_loadI {n : Int} (ho : o.op = .load 3 x) (hx : ρ x = .pointer (some ad)) (hc : w.cell? ad = some (.int .i64 n)) : (execOp ρ o).run Tryz.prog w = .ok (.value (.int .i64 n)) w := by
  simp only [execOp, ho, hx]
  go_simp
theorem k_loadF {n : Int} (ho : o.op = .load 31 x) (hx : ρ x = .pointer (some ad)) (hc : w.cell? ad = some (.int .i64 n)) : (execOp ρ o).run Tryz.prog w = .ok (.value (.int .i64 n)) w := by
  simp only [execOp, ho, hx]
  go_simp
theorem k_loadU {n : Int} (ho : o.op = .load 32 x) (hx : ρ x = .pointer (some ad)) (hc : w.cell? ad = some (.int .i64 n)) : (execOp ρ o).run Tryz.prog w = .ok (.value (.int .i64 n)) w := by
  simp only [execOp, ho, hx]
  go_simp
theorem k_loadL {A : Option Addr} {n c : Nat} (ho : o.op = .load 33 x) (hx : ρ x = .pointer (some ad)) (hc : w.cell? ad = some (.slice A n c)) : (execOp ρ o).run Tryz.prog w = .ok (.value (.slice A n c)) w := by
  simp only [execOp, ho, hx]
  go_simp
theorem k_loadW {A : Option Addr} {n c : Nat} (ho : o.op = .load 34 x) (hx : ρ x = .pointer (some ad)) (hc : w.cell? ad = some (.slice A n c)) : (execOp ρ o).run Tryz.prog w = .ok (.value (.slice A n c)) w := by
  simp only [execOp, ho, hx]
  go_simp
theorem k_lenL {A : Option Addr} {n c : Nat} (ho : o.op = .call ⟨.builtin .len, #[x], #[33]⟩) (hx : ρ x = .slice A n c) : (execOp ρ o).run Tryz.prog w = .ok (.value (.int .i64 n)) w := by
  simp only [execOp, ho]
  go_simp
theorem k_lenW {A : Option Addr} {n c : Nat} (ho : o.op = .call ⟨.builtin .len, #[x], #[34]⟩) (hx : ρ x = .slice A n c) : (execOp ρ o).run Tryz.prog w = .ok (.value (.int .i64 n)) w := by
  simp only [execOp, ho]
  go_simp
theorem k_neU {n m : Int} {r : Bool} (ho : o.op = .binOp .neq 32 x (.const (.int .i64 m)) 32) (hx : ρ x = .int .i64 n) (hc : ρ (.const (.int .i64 m)) = .int .i64 m) (hr : (n != m) = r) : (execOp ρ o).run Tryz.prog w = .ok (.value (.bool r)) w := by
  subst hr
  simp only [execOp, ho, hx, hc]
  go_simp
end
end Go.Proofs.YtocpmljkmdpfkaaGreatDoor
