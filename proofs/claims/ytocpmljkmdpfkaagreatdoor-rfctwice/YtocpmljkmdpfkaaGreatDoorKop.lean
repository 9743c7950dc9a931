/-
  Operations on numbers, known by their text: what each answers.
-/
import Derived.Test.YtocpmljkmdpfkaaGreatDoorR18j
namespace Go.Proofs.YtocpmljkmdpfkaaGreatDoor
open Go.RowKit
section
variable {w : World} {ρ : Operand → Value} {o : Oper} {x y : Operand} {n m r : Int} {q : Bool}
theorem o_addI (ho : o.op = .binOp .add 3 x y 3) (hx : ρ x = .int .i64 n) (hy : ρ y = .int .i64 m) (hr : IntKind.i64.wrap (n + m) = r) : (execOp ρ o).run Tryz.prog w = .ok (.value (.int .i64 r)) w := by
  subst hr
  simp only [execOp, ho, hx, hy]
  go_simp
theorem o_subI (ho : o.op = .binOp .sub 3 x y 3) (hx : ρ x = .int .i64 n) (hy : ρ y = .int .i64 m) (hr : IntKind.i64.wrap (n - m) = r) : (execOp ρ o).run Tryz.prog w = .ok (.value (.int .i64 r)) w := by
  subst hr
  simp only [execOp, ho, hx, hy]
  go_simp
theorem o_mulI (ho : o.op = .binOp .mul 3 x y 3) (hx : ρ x = .int .i64 n) (hy : ρ y = .int .i64 m) (hr : IntKind.i64.wrap (n * m) = r) : (execOp ρ o).run Tryz.prog w = .ok (.value (.int .i64 r)) w := by
  subst hr
  simp only [execOp, ho, hx, hy]
  go_simp
theorem o_addU (ho : o.op = .binOp .add 32 x y 32) (hx : ρ x = .int .i64 n) (hy : ρ y = .int .i64 m) (hr : IntKind.i64.wrap (n + m) = r) : (execOp ρ o).run Tryz.prog w = .ok (.value (.int .i64 r)) w := by
  subst hr
  simp only [execOp, ho, hx, hy]
  go_simp
theorem o_remI (ho : o.op = .binOp .rem 3 x y 3) (hx : ρ x = .int .i64 n) (hy : ρ y = .int .i64 m) (hm : m ≠ 0) (hr : n.tmod m = r) : (execOp ρ o).run Tryz.prog w = .ok (.value (.int .i64 r)) w := by
  subst hr
  simp only [execOp, ho, hx, hy]
  go_simp
theorem o_remB (ho : o.op = .binOp .rem 5 x y 5) (hx : ρ x = .int .u8 n) (hy : ρ y = .int .u8 m) (hm : m ≠ 0) (hr : n.tmod m = r) : (execOp ρ o).run Tryz.prog w = .ok (.value (.int .u8 r)) w := by
  subst hr
  simp only [execOp, ho, hx, hy]
  go_simp
theorem o_remQ (ho : o.op = .binOp .rem 23 x y 23) (hx : ρ x = .int .u32 n) (hy : ρ y = .int .u32 m) (hm : m ≠ 0) (hr : n.tmod m = r) : (execOp ρ o).run Tryz.prog w = .ok (.value (.int .u32 r)) w := by
  subst hr
  simp only [execOp, ho, hx, hy]
  go_simp
theorem o_ltI (ho : o.op = .binOp .lss 3 x y 3) (hx : ρ x = .int .i64 n) (hy : ρ y = .int .i64 m) (hr : (decide (n < m)) = q) : (execOp ρ o).run Tryz.prog w = .ok (.value (.bool q)) w := by
  subst hr
  simp only [execOp, ho, hx, hy]
  go_simp
theorem o_gtI (ho : o.op = .binOp .gtr 3 x y 3) (hx : ρ x = .int .i64 n) (hy : ρ y = .int .i64 m) (hr : (decide (m < n)) = q) : (execOp ρ o).run Tryz.prog w = .ok (.value (.bool q)) w := by
  subst hr
  simp only [execOp, ho, hx, hy]
  go_simp
theorem o_eqI (ho : o.op = .binOp .eql 3 x y 3) (hx : ρ x = .int .i64 n) (hy : ρ y = .int .i64 m) (hr : (n == m) = q) : (execOp ρ o).run Tryz.prog w = .ok (.value (.bool q)) w := by
  subst hr
  simp only [execOp, ho, hx, hy]
  go_simp
theorem o_neI (ho : o.op = .binOp .neq 3 x y 3) (hx : ρ x = .int .i64 n) (hy : ρ y = .int .i64 m) (hr : (n != m) = q) : (execOp ρ o).run Tryz.prog w = .ok (.value (.bool q)) w := by
  subst hr
  simp only [execOp, ho, hx, hy]
  go_simp
theorem o_gtB (ho : o.op = .binOp .gtr 5 x y 5) (hx : ρ x = .int .u8 n) (hy : ρ y = .int .u8 m) (hr : (decide (m < n)) = q) : (execOp ρ o).run Tryz.prog w = .ok (.value (.bool q)) w := by
  subst hr
  simp only [execOp, ho, hx, hy]
  go_simp
theorem o_eqB (ho : o.op = .binOp .eql 5 x y 5) (hx : ρ x = .int .u8 n) (hy : ρ y = .int .u8 m) (hr : (n == m) = q) : (execOp ρ o).run Tryz.prog w = .ok (.value (.bool q)) w := by
  subst hr
  simp only [execOp, ho, hx, hy]
  go_simp
theorem o_neF (ho : o.op = .binOp .neq 31 x y 31) (hx : ρ x = .int .i64 n) (hy : ρ y = .int .i64 m) (hr : (n != m) = q) : (execOp ρ o).run Tryz.prog w = .ok (.value (.bool q)) w := by
  subst hr
  simp only [execOp, ho, hx, hy]
  go_simp
theorem o_convBI (ho : o.op = .convert 5 3 x) (hx : ρ x = .int .u8 n) (hr : IntKind.i64.wrap n = r) : (execOp ρ o).run Tryz.prog w = .ok (.value (.int .i64 r)) w := by
  subst hr
  simp only [execOp, ho, hx]
  go_simp
theorem o_convBF (ho : o.op = .convert 5 31 x) (hx : ρ x = .int .u8 n) (hr : IntKind.i64.wrap n = r) : (execOp ρ o).run Tryz.prog w = .ok (.value (.int .i64 r)) w := by
  subst hr
  simp only [execOp, ho, hx]
  go_simp
theorem o_convHI (ho : o.op = .convert 22 3 x) (hx : ρ x = .int .u16 n) (hr : IntKind.i64.wrap n = r) : (execOp ρ o).run Tryz.prog w = .ok (.value (.int .i64 r)) w := by
  subst hr
  simp only [execOp, ho, hx]
  go_simp
theorem o_convQU (ho : o.op = .convert 23 32 x) (hx : ρ x = .int .u32 n) (hr : IntKind.i64.wrap n = r) : (execOp ρ o).run Tryz.prog w = .ok (.value (.int .i64 r)) w := by
  subst hr
  simp only [execOp, ho, hx]
  go_simp
theorem o_convCI (ho : o.op = .convert 58 3 x) (hx : ρ x = .int .i8 n) (hr : IntKind.i64.wrap n = r) : (execOp ρ o).run Tryz.prog w = .ok (.value (.int .i64 r)) w := by
  subst hr
  simp only [execOp, ho, hx]
  go_simp
theorem o_convSI (ho : o.op = .convert 65 3 x) (hx : ρ x = .int .i16 n) (hr : IntKind.i64.wrap n = r) : (execOp ρ o).run Tryz.prog w = .ok (.value (.int .i64 r)) w := by
  subst hr
  simp only [execOp, ho, hx]
  go_simp
theorem o_not {b : Bool} (ho : o.op = .unOp .not 4 x) (hx : ρ x = .bool b) (hr : (!b) = q) : (execOp ρ o).run Tryz.prog w = .ok (.value (.bool q)) w := by
  subst hr
  simp only [execOp, ho, hx]
  go_simp
end
end Go.Proofs.YtocpmljkmdpfkaaGreatDoor
namespace Go.Proofs.YtocpmljkmdpfkaaGreatDoor
open Go.RowKit
section
variable {w : World} {ρ : Operand → Value} {o : Oper} {x y : Operand} {v u : Value}
theorem c_Contains (ho : o.op = .call ⟨.value (.func 50), #[x, y], #[33, 3]⟩) (hf : ρ (.func 50) = .func (.func 50) #[] #[]) (hx : ρ x = v) (hy : ρ y = u) : (execOp ρ o).run Tryz.prog w = .ok (.enter 50 #[v, u]) w := by
  simp only [execOp, ho]
  go_simp
theorem c_Sort (ho : o.op = .call ⟨.value (.func 21), #[x], #[33]⟩) (hf : ρ (.func 21) = .func (.func 21) #[] #[]) (hx : ρ x = v) : (execOp ρ o).run Tryz.prog w = .ok (.enter 21 #[v]) w := by
  simp only [execOp, ho]
  go_simp
theorem c_Compact (ho : o.op = .call ⟨.value (.func 22), #[x], #[33]⟩) (hf : ρ (.func 22) = .func (.func 22) #[] #[]) (hx : ρ x = v) : (execOp ρ o).run Tryz.prog w = .ok (.enter 22 #[v]) w := by
  simp only [execOp, ho]
  go_simp
theorem c_Few (ho : o.op = .call ⟨.value (.func 23), #[x, y], #[33, 3]⟩) (hf : ρ (.func 23) = .func (.func 23) #[] #[]) (hx : ρ x = v) (hy : ρ y = u) : (execOp ρ o).run Tryz.prog w = .ok (.enter 23 #[v, u]) w := by
  simp only [execOp, ho]
  go_simp
theorem c_ContainsN (ho : o.op = .call ⟨.value (.func 24), #[x, y], #[34, 55]⟩) (hf : ρ (.func 24) = .func (.func 24) #[] #[]) (hx : ρ x = v) (hy : ρ y = u) : (execOp ρ o).run Tryz.prog w = .ok (.enter 24 #[v, u]) w := by
  simp only [execOp, ho]
  go_simp
theorem c_SortN (ho : o.op = .call ⟨.value (.func 25), #[x, y], #[34, 64]⟩) (hf : ρ (.func 25) = .func (.func 25) #[] #[]) (hx : ρ x = v) (hy : ρ y = u) : (execOp ρ o).run Tryz.prog w = .ok (.enter 25 #[v, u]) w := by
  simp only [execOp, ho]
  go_simp
theorem c_Make (ho : o.op = .call ⟨.value (.func 9), #[x], #[29]⟩) (hf : ρ (.func 9) = .func (.func 9) #[] #[]) (hx : ρ x = v) : (execOp ρ o).run Tryz.prog w = .ok (.enter 9 #[v]) w := by
  simp only [execOp, ho]
  go_simp
theorem c_Light (ho : o.op = .call ⟨.value (.func 8), #[x], #[29]⟩) (hf : ρ (.func 8) = .func (.func 8) #[] #[]) (hx : ρ x = v) : (execOp ρ o).run Tryz.prog w = .ok (.enter 8 #[v]) w := by
  simp only [execOp, ho]
  go_simp
end
end Go.Proofs.YtocpmljkmdpfkaaGreatDoor
