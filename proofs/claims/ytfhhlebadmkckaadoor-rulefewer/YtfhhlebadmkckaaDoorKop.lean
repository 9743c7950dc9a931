/-
  Operations on numbers, known by their text: what each answers.
-/
import Derived.Test.YtfhhlebadmkckaaDoorR18j
namespace Go.Proofs.YtfhhlebadmkckaaDoor
open Go.RowKit
section
variable {w : World} {ρ : Operand → Value} {o : Oper} {x y : Operand} {n m r : Int} {q : Bool}
theorem o_addI (ho : o.op = .binOp .add 3 x y 3) (hx : ρ x = .int .i64 n) (hy : ρ y = .int .i64 m) (hr : IntKind.i64.wrap (n + m) = r) : (execOp ρ o).run Tryd.prog w = .ok (.value (.int .i64 r)) w := by
  subst hr
  simp only [execOp, ho, hx, hy]
  go_simp
theorem o_subI (ho : o.op = .binOp .sub 3 x y 3) (hx : ρ x = .int .i64 n) (hy : ρ y = .int .i64 m) (hr : IntKind.i64.wrap (n - m) = r) : (execOp ρ o).run Tryd.prog w = .ok (.value (.int .i64 r)) w := by
  subst hr
  simp only [execOp, ho, hx, hy]
  go_simp
theorem o_mulI (ho : o.op = .binOp .mul 3 x y 3) (hx : ρ x = .int .i64 n) (hy : ρ y = .int .i64 m) (hr : IntKind.i64.wrap (n * m) = r) : (execOp ρ o).run Tryd.prog w = .ok (.value (.int .i64 r)) w := by
  subst hr
  simp only [execOp, ho, hx, hy]
  go_simp
theorem o_addU (ho : o.op = .binOp .add 35 x y 35) (hx : ρ x = .int .i64 n) (hy : ρ y = .int .i64 m) (hr : IntKind.i64.wrap (n + m) = r) : (execOp ρ o).run Tryd.prog w = .ok (.value (.int .i64 r)) w := by
  subst hr
  simp only [execOp, ho, hx, hy]
  go_simp
theorem o_remI (ho : o.op = .binOp .rem 3 x y 3) (hx : ρ x = .int .i64 n) (hy : ρ y = .int .i64 m) (hm : m ≠ 0) (hr : n.tmod m = r) : (execOp ρ o).run Tryd.prog w = .ok (.value (.int .i64 r)) w := by
  subst hr
  simp only [execOp, ho, hx, hy]
  go_simp
theorem o_quoI (ho : o.op = .binOp .quo 3 x y 3) (hx : ρ x = .int .i64 n) (hy : ρ y = .int .i64 m) (hm : m ≠ 0) (hr : IntKind.i64.wrap (n.tdiv m) = r) : (execOp ρ o).run Tryd.prog w = .ok (.value (.int .i64 r)) w := by
  subst hr
  simp only [execOp, ho, hx, hy]
  go_simp
theorem o_remB (ho : o.op = .binOp .rem 5 x y 5) (hx : ρ x = .int .u8 n) (hy : ρ y = .int .u8 m) (hm : m ≠ 0) (hr : n.tmod m = r) : (execOp ρ o).run Tryd.prog w = .ok (.value (.int .u8 r)) w := by
  subst hr
  simp only [execOp, ho, hx, hy]
  go_simp
theorem o_remQ (ho : o.op = .binOp .rem 25 x y 25) (hx : ρ x = .int .u32 n) (hy : ρ y = .int .u32 m) (hm : m ≠ 0) (hr : n.tmod m = r) : (execOp ρ o).run Tryd.prog w = .ok (.value (.int .u32 r)) w := by
  subst hr
  simp only [execOp, ho, hx, hy]
  go_simp
theorem o_ltI (ho : o.op = .binOp .lss 3 x y 3) (hx : ρ x = .int .i64 n) (hy : ρ y = .int .i64 m) (hr : (decide (n < m)) = q) : (execOp ρ o).run Tryd.prog w = .ok (.value (.bool q)) w := by
  subst hr
  simp only [execOp, ho, hx, hy]
  go_simp
theorem o_gtI (ho : o.op = .binOp .gtr 3 x y 3) (hx : ρ x = .int .i64 n) (hy : ρ y = .int .i64 m) (hr : (decide (m < n)) = q) : (execOp ρ o).run Tryd.prog w = .ok (.value (.bool q)) w := by
  subst hr
  simp only [execOp, ho, hx, hy]
  go_simp
theorem o_eqI (ho : o.op = .binOp .eql 3 x y 3) (hx : ρ x = .int .i64 n) (hy : ρ y = .int .i64 m) (hr : (n == m) = q) : (execOp ρ o).run Tryd.prog w = .ok (.value (.bool q)) w := by
  subst hr
  simp only [execOp, ho, hx, hy]
  go_simp
theorem o_neI (ho : o.op = .binOp .neq 3 x y 3) (hx : ρ x = .int .i64 n) (hy : ρ y = .int .i64 m) (hr : (n != m) = q) : (execOp ρ o).run Tryd.prog w = .ok (.value (.bool q)) w := by
  subst hr
  simp only [execOp, ho, hx, hy]
  go_simp
theorem o_ltB (ho : o.op = .binOp .lss 5 x y 5) (hx : ρ x = .int .u8 n) (hy : ρ y = .int .u8 m) (hr : (decide (n < m)) = q) : (execOp ρ o).run Tryd.prog w = .ok (.value (.bool q)) w := by
  subst hr
  simp only [execOp, ho, hx, hy]
  go_simp
theorem o_gtB (ho : o.op = .binOp .gtr 5 x y 5) (hx : ρ x = .int .u8 n) (hy : ρ y = .int .u8 m) (hr : (decide (m < n)) = q) : (execOp ρ o).run Tryd.prog w = .ok (.value (.bool q)) w := by
  subst hr
  simp only [execOp, ho, hx, hy]
  go_simp
theorem o_eqB (ho : o.op = .binOp .eql 5 x y 5) (hx : ρ x = .int .u8 n) (hy : ρ y = .int .u8 m) (hr : (n == m) = q) : (execOp ρ o).run Tryd.prog w = .ok (.value (.bool q)) w := by
  subst hr
  simp only [execOp, ho, hx, hy]
  go_simp
theorem o_neB (ho : o.op = .binOp .neq 5 x y 5) (hx : ρ x = .int .u8 n) (hy : ρ y = .int .u8 m) (hr : (n != m) = q) : (execOp ρ o).run Tryd.prog w = .ok (.value (.bool q)) w := by
  subst hr
  simp only [execOp, ho, hx, hy]
  go_simp
theorem o_ltF (ho : o.op = .binOp .lss 34 x y 34) (hx : ρ x = .int .i64 n) (hy : ρ y = .int .i64 m) (hr : (decide (n < m)) = q) : (execOp ρ o).run Tryd.prog w = .ok (.value (.bool q)) w := by
  subst hr
  simp only [execOp, ho, hx, hy]
  go_simp
theorem o_gtF (ho : o.op = .binOp .gtr 34 x y 34) (hx : ρ x = .int .i64 n) (hy : ρ y = .int .i64 m) (hr : (decide (m < n)) = q) : (execOp ρ o).run Tryd.prog w = .ok (.value (.bool q)) w := by
  subst hr
  simp only [execOp, ho, hx, hy]
  go_simp
theorem o_eqF (ho : o.op = .binOp .eql 34 x y 34) (hx : ρ x = .int .i64 n) (hy : ρ y = .int .i64 m) (hr : (n == m) = q) : (execOp ρ o).run Tryd.prog w = .ok (.value (.bool q)) w := by
  subst hr
  simp only [execOp, ho, hx, hy]
  go_simp
theorem o_neF (ho : o.op = .binOp .neq 34 x y 34) (hx : ρ x = .int .i64 n) (hy : ρ y = .int .i64 m) (hr : (n != m) = q) : (execOp ρ o).run Tryd.prog w = .ok (.value (.bool q)) w := by
  subst hr
  simp only [execOp, ho, hx, hy]
  go_simp
theorem o_convBI (ho : o.op = .convert 5 3 x) (hx : ρ x = .int .u8 n) (hr : IntKind.i64.wrap n = r) : (execOp ρ o).run Tryd.prog w = .ok (.value (.int .i64 r)) w := by
  subst hr
  simp only [execOp, ho, hx]
  go_simp
theorem o_convBF (ho : o.op = .convert 5 34 x) (hx : ρ x = .int .u8 n) (hr : IntKind.i64.wrap n = r) : (execOp ρ o).run Tryd.prog w = .ok (.value (.int .i64 r)) w := by
  subst hr
  simp only [execOp, ho, hx]
  go_simp
theorem o_convHI (ho : o.op = .convert 24 3 x) (hx : ρ x = .int .u16 n) (hr : IntKind.i64.wrap n = r) : (execOp ρ o).run Tryd.prog w = .ok (.value (.int .i64 r)) w := by
  subst hr
  simp only [execOp, ho, hx]
  go_simp
theorem o_convQU (ho : o.op = .convert 25 35 x) (hx : ρ x = .int .u32 n) (hr : IntKind.i64.wrap n = r) : (execOp ρ o).run Tryd.prog w = .ok (.value (.int .i64 r)) w := by
  subst hr
  simp only [execOp, ho, hx]
  go_simp
theorem o_convCI (ho : o.op = .convert 51 3 x) (hx : ρ x = .int .i8 n) (hr : IntKind.i64.wrap n = r) : (execOp ρ o).run Tryd.prog w = .ok (.value (.int .i64 r)) w := by
  subst hr
  simp only [execOp, ho, hx]
  go_simp
theorem o_convSI (ho : o.op = .convert 57 3 x) (hx : ρ x = .int .i16 n) (hr : IntKind.i64.wrap n = r) : (execOp ρ o).run Tryd.prog w = .ok (.value (.int .i64 r)) w := by
  subst hr
  simp only [execOp, ho, hx]
  go_simp
theorem o_not {b : Bool} (ho : o.op = .unOp .not 4 x) (hx : ρ x = .bool b) (hr : (!b) = q) : (execOp ρ o).run Tryd.prog w = .ok (.value (.bool q)) w := by
  subst hr
  simp only [execOp, ho, hx]
  go_simp
end
end Go.Proofs.YtfhhlebadmkckaaDoor
namespace Go.Proofs.YtfhhlebadmkckaaDoor
open Go.RowKit
section
variable {w : World} {ρ : Operand → Value} {o : Oper} {x y : Operand} {v u : Value}
theorem c_Contains (ho : o.op = .call ⟨.value (.func 30), #[x, y], #[36, 3]⟩) (hf : ρ (.func 30) = .func (.func 30) #[] #[]) (hx : ρ x = v) (hy : ρ y = u) : (execOp ρ o).run Tryd.prog w = .ok (.enter 30 #[v, u]) w := by
  simp only [execOp, ho]
  go_simp
theorem c_Sort (ho : o.op = .call ⟨.value (.func 16), #[x], #[36]⟩) (hf : ρ (.func 16) = .func (.func 16) #[] #[]) (hx : ρ x = v) : (execOp ρ o).run Tryd.prog w = .ok (.enter 16 #[v]) w := by
  simp only [execOp, ho]
  go_simp
theorem c_Compact (ho : o.op = .call ⟨.value (.func 17), #[x], #[36]⟩) (hf : ρ (.func 17) = .func (.func 17) #[] #[]) (hx : ρ x = v) : (execOp ρ o).run Tryd.prog w = .ok (.enter 17 #[v]) w := by
  simp only [execOp, ho]
  go_simp
theorem c_Few (ho : o.op = .call ⟨.value (.func 18), #[x, y], #[36, 3]⟩) (hf : ρ (.func 18) = .func (.func 18) #[] #[]) (hx : ρ x = v) (hy : ρ y = u) : (execOp ρ o).run Tryd.prog w = .ok (.enter 18 #[v, u]) w := by
  simp only [execOp, ho]
  go_simp
theorem c_ContainsN (ho : o.op = .call ⟨.value (.func 19), #[x, y], #[37, 23]⟩) (hf : ρ (.func 19) = .func (.func 19) #[] #[]) (hx : ρ x = v) (hy : ρ y = u) : (execOp ρ o).run Tryd.prog w = .ok (.enter 19 #[v, u]) w := by
  simp only [execOp, ho]
  go_simp
theorem c_SortN (ho : o.op = .call ⟨.value (.func 20), #[x, y], #[37, 33]⟩) (hf : ρ (.func 20) = .func (.func 20) #[] #[]) (hx : ρ x = v) (hy : ρ y = u) : (execOp ρ o).run Tryd.prog w = .ok (.enter 20 #[v, u]) w := by
  simp only [execOp, ho]
  go_simp
theorem c_Make (ho : o.op = .call ⟨.value (.func 8), #[x], #[31]⟩) (hf : ρ (.func 8) = .func (.func 8) #[] #[]) (hx : ρ x = v) : (execOp ρ o).run Tryd.prog w = .ok (.enter 8 #[v]) w := by
  simp only [execOp, ho]
  go_simp
theorem c_Light (ho : o.op = .call ⟨.value (.func 6), #[x], #[31]⟩) (hf : ρ (.func 6) = .func (.func 6) #[] #[]) (hx : ρ x = v) : (execOp ρ o).run Tryd.prog w = .ok (.enter 6 #[v]) w := by
  simp only [execOp, ho]
  go_simp
theorem c_Lists (ho : o.op = .call ⟨.value (.func 12), #[x], #[39]⟩) (hf : ρ (.func 12) = .func (.func 12) #[] #[]) (hx : ρ x = v) : (execOp ρ o).run Tryd.prog w = .ok (.enter 12 #[v]) w := by
  simp only [execOp, ho]
  go_simp
end
end Go.Proofs.YtfhhlebadmkckaaDoor
