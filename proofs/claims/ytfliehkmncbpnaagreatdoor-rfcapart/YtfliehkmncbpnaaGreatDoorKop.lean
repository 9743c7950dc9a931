/-
  Operations on numbers, known by their text: what each answers.
-/
import Derived.Test.YtfliehkmncbpnaaGreatDoorR18j
namespace Go.Proofs.YtfliehkmncbpnaaGreatDoor
open Go.RowKit
section
variable {w : World} {ρ : Operand → Value} {o : Oper} {x y : Operand} {n m r : Int} {q : Bool}
theorem o_addI (ho : o.op = .binOp .add 3 x y 3) (hx : ρ x = .int .i64 n) (hy : ρ y = .int .i64 m) (hr : IntKind.i64.wrap (n + m) = r) : (execOp ρ o).run Tryz.prog w = .ok (.value (.int .i64 r)) w := by
  subst hr
  simp only [execOp, ho, hx, hy]
  go_simp
theorem o_subI (ho : o.op = .binOp .sub 3 x y 3) (hx : ρ x = .int .i64 n) (hy : ρ y = .int .i64 m) (hr : IntKind.i64.wrap (n - m) = r) : (execOp ρ o).run Tryz.prog w = .ok (.value (.int .i64 r)) w := by
  subst hr
  simp only [execOp, ho, hx, hy]
  go_simp
theorem o_mulI (ho : o.op = .binOp .mul 3 x y 3) (hx : ρ x = .int .i64 n) (hy : ρ y = .int .i64 m) (hr : IntKind.i64.wrap (n * m) = r) : (execOp ρ o).run Tryz.prog w = .ok (.value (.int .i64 r)) w := by
  subst hr
  simp only [execOp, ho, hx, hy]
  go_simp
theorem o_addU (ho : o.op = .binOp .add 32 x y 32) (hx : ρ x = .int .i64 n) (hy : ρ y = .int .i64 m) (hr : IntKind.i64.wrap (n + m) = r) : (execOp ρ o).run Tryz.prog w = .ok (.value (.int .i64 r)) w := by
  subst hr
  simp only [execOp, ho, hx, hy]
  go_simp
theorem o_remI (ho : o.op = .binOp .rem 3 x y 3) (hx : ρ x = .int .i64 n) (hy : ρ y = .int .i64 m) (hm : m ≠ 0) (hr : n.tmod m = r) : (execOp ρ o).run Tryz.prog w = .ok (.value (.int .i64 r)) w := by
  subst hr
  simp only [execOp, ho, hx, hy]
  go_simp
theorem o_quoI (ho : o.op = .binOp .quo 3 x y 3) (hx : ρ x = .int .i64 n) (hy : ρ y = .int .i64 m) (hm : m ≠ 0) (hr : IntKind.i64.wrap (n.tdiv m) = r) : (execOp ρ o).run Tryz.prog w = .ok (.value (.int .i64 r)) w := by
  subst hr
  simp only [execOp, ho, hx, hy]
  go_simp
theorem o_remB (ho : o.op = .binOp .rem 5 x y 5) (hx : ρ x = .int .u8 n) (hy : ρ y = .int .u8 m) (hm : m ≠ 0) (hr : n.tmod m = r) : (execOp ρ o).run Tryz.prog w = .ok (.value (.int .u8 r)) w := by
  subst hr
  simp only [execOp, ho, hx, hy]
  go_simp
theorem o_remQ (ho : o.op = .binOp .rem 23 x y 23) (hx : ρ x = .int .u32 n) (hy : ρ y = .int .u32 m) (hm : m ≠ 0) (hr : n.tmod m = r) : (execOp ρ o).run Tryz.prog w = .ok (.value (.int .u32 r)) w := by
  subst hr
  simp only [execOp, ho, hx, hy]
  go_simp
theorem o_ltI (ho : o.op = .binOp .lss 3 x y 3) (hx : ρ x = .int .i64 n) (hy : ρ y = .int .i64 m) (hr : (decide (n < m)) = q) : (execOp ρ o).run Tryz.prog w = .ok (.value (.bool q)) w := by
  subst hr
  simp only [execOp, ho, hx, hy]
  go_simp
theorem o_gtI (ho : o.op = .binOp .gtr 3 x y 3) (hx : ρ x = .int .i64 n) (hy : ρ y = .int .i64 m) (hr : (decide (m < n)) = q) : (execOp ρ o).run Tryz.prog w = .ok (.value (.bool q)) w := by
  subst hr
  simp only [execOp, ho, hx, hy]
  go_simp
theorem o_eqI (ho : o.op = .binOp .eql 3 x y 3) (hx : ρ x = .int .i64 n) (hy : ρ y = .int .i64 m) (hr : (n == m) = q) : (execOp ρ o).run Tryz.prog w = .ok (.value (.bool q)) w := by
  subst hr
  simp only [execOp, ho, hx, hy]
  go_simp
theorem o_neI (ho : o.op = .binOp .neq 3 x y 3) (hx : ρ x = .int .i64 n) (hy : ρ y = .int .i64 m) (hr : (n != m) = q) : (execOp ρ o).run Tryz.prog w = .ok (.value (.bool q)) w := by
  subst hr
  simp only [execOp, ho, hx, hy]
  go_simp
theorem o_ltB (ho : o.op = .binOp .lss 5 x y 5) (hx : ρ x = .int .u8 n) (hy : ρ y = .int .u8 m) (hr : (decide (n < m)) = q) : (execOp ρ o).run Tryz.prog w = .ok (.value (.bool q)) w := by
  subst hr
  simp only [execOp, ho, hx, hy]
  go_simp
theorem o_gtB (ho : o.op = .binOp .gtr 5 x y 5) (hx : ρ x = .int .u8 n) (hy : ρ y = .int .u8 m) (hr : (decide (m < n)) = q) : (execOp ρ o).run Tryz.prog w = .ok (.value (.bool q)) w := by
  subst hr
  simp only [execOp, ho, hx, hy]
  go_simp
theorem o_eqB (ho : o.op = .binOp .eql 5 x y 5) (hx : ρ x = .int .u8 n) (hy : ρ y = .int .u8 m) (hr : (n == m) = q) : (execOp ρ o).run Tryz.prog w = .ok (.value (.bool q)) w := by
  subst hr
  simp only [execOp, ho, hx, hy]
  go_simp
theorem o_neB (ho : o.op = .binOp .neq 5 x y 5) (hx : ρ x = .int .u8 n) (hy : ρ y = .int .u8 m) (hr : (n != m) = q) : (execOp ρ o).run Tryz.prog w = .ok (.value (.bool q)) w := by
  subst hr
  simp only [execOp, ho, hx, hy]
  go_simp
theorem o_ltF (ho : o.op = .binOp .lss 31 x y 31) (hx : ρ x = .int .i64 n) (hy : ρ y = .int .i64 m) (hr : (decide (n < m)) = q) : (execOp ρ o).run Tryz.prog w = .ok (.value (.bool q)) w := by
  subst hr
  simp only [execOp, ho, hx, hy]
  go_simp
theorem o_gtF (ho : o.op = .binOp .gtr 31 x y 31) (hx : ρ x = .int .i64 n) (hy : ρ y = .int .i64 m) (hr : (decide (m < n)) = q) : (execOp ρ o).run Tryz.prog w = .ok (.value (.bool q)) w := by
  subst hr
  simp only [execOp, ho, hx, hy]
  go_simp
theorem o_eqF (ho : o.op = .binOp .eql 31 x y 31) (hx : ρ x = .int .i64 n) (hy : ρ y = .int .i64 m) (hr : (n == m) = q) : (execOp ρ o).run Tryz.prog w = .ok (.value (.bool q)) w := by
  subst hr
  simp only [execOp, ho, hx, hy]
  go_simp
theorem o_neF (ho : o.op = .binOp .neq 31 x y 31) (hx : ρ x = .int .i64 n) (hy : ρ y = .int .i64 m) (hr : (n != m) = q) : (execOp ρ o).run Tryz.prog w = .ok (.value (.bool q)) w := by
  subst hr
  simp only [execOp, ho, hx, hy]
  go_simp
theorem o_convBI (ho : o.op = .convert 5 3 x) (hx : ρ x = .int .u8 n) (hr : IntKind.i64.wrap n = r) : (execOp ρ o).run Tryz.prog w = .ok (.value (.int .i64 r)) w := by
  subst hr
  simp only [execOp, ho, hx]
  go_simp
theorem o_convBF (ho : o.op = .convert 5 31 x) (hx : ρ x = .int .u8 n) (hr : IntKind.i64.wrap n = r) : (execOp ρ o).run Tryz.prog w = .ok (.value (.int .i64 r)) w := by
  subst hr
  simp only [execOp, ho, hx]
  go_simp
theorem o_convHI (ho : o.op = .convert 22 3 x) (hx : ρ x = .int .u16 n) (hr : IntKind.i64.wrap n = r) : (execOp ρ o).run Tryz.prog w = .ok (.value (.int .i64 r)) w := by
  subst hr
  simp only [execOp, ho, hx]
  go_simp
theorem o_convQU (ho : o.op = .convert 23 32 x) (hx : ρ x = .int .u32 n) (hr : IntKind.i64.wrap n = r) : (execOp ρ o).run Tryz.prog w = .ok (.value (.int .i64 r)) w := by
  subst hr
  simp only [execOp, ho, hx]
  go_simp
theorem o_convCI (ho : o.op = .convert 48 3 x) (hx : ρ x = .int .i8 n) (hr : IntKind.i64.wrap n = r) : (execOp ρ o).run Tryz.prog w = .ok (.value (.int .i64 r)) w := by
  subst hr
  simp only [execOp, ho, hx]
  go_simp
theorem o_convSI (ho : o.op = .convert 55 3 x) (hx : ρ x = .int .i16 n) (hr : IntKind.i64.wrap n = r) : (execOp ρ o).run Tryz.prog w = .ok (.value (.int .i64 r)) w := by
  subst hr
  simp only [execOp, ho, hx]
  go_simp
theorem o_not {b : Bool} (ho : o.op = .unOp .not 4 x) (hx : ρ x = .bool b) (hr : (!b) = q) : (execOp ρ o).run Tryz.prog w = .ok (.value (.bool q)) w := by
  subst hr
  simp only [execOp, ho, hx]
  go_simp
end
end Go.Proofs.YtfliehkmncbpnaaGreatDoor
namespace Go.Proofs.YtfliehkmncbpnaaGreatDoor
open Go.RowKit
section
variable {w : World} {ρ : Operand → Value} {o : Oper} {x y : Operand} {v u : Value}
theorem c_Contains (ho : o.op = .call ⟨.value (.func 29), #[x, y], #[33, 3]⟩) (hf : ρ (.func 29) = .func (.func 29) #[] #[]) (hx : ρ x = v) (hy : ρ y = u) : (execOp ρ o).run Tryz.prog w = .ok (.enter 29 #[v, u]) w := by
  simp only [execOp, ho]
  go_simp
theorem c_Sort (ho : o.op = .call ⟨.value (.func 11), #[x], #[33]⟩) (hf : ρ (.func 11) = .func (.func 11) #[] #[]) (hx : ρ x = v) : (execOp ρ o).run Tryz.prog w = .ok (.enter 11 #[v]) w := by
  simp only [execOp, ho]
  go_simp
theorem c_Compact (ho : o.op = .call ⟨.value (.func 12), #[x], #[33]⟩) (hf : ρ (.func 12) = .func (.func 12) #[] #[]) (hx : ρ x = v) : (execOp ρ o).run Tryz.prog w = .ok (.enter 12 #[v]) w := by
  simp only [execOp, ho]
  go_simp
theorem c_Few (ho : o.op = .call ⟨.value (.func 13), #[x, y], #[33, 3]⟩) (hf : ρ (.func 13) = .func (.func 13) #[] #[]) (hx : ρ x = v) (hy : ρ y = u) : (execOp ρ o).run Tryz.prog w = .ok (.enter 13 #[v, u]) w := by
  simp only [execOp, ho]
  go_simp
theorem c_ContainsN (ho : o.op = .call ⟨.value (.func 14), #[x, y], #[34, 45]⟩) (hf : ρ (.func 14) = .func (.func 14) #[] #[]) (hx : ρ x = v) (hy : ρ y = u) : (execOp ρ o).run Tryz.prog w = .ok (.enter 14 #[v, u]) w := by
  simp only [execOp, ho]
  go_simp
theorem c_SortN (ho : o.op = .call ⟨.value (.func 15), #[x, y], #[34, 54]⟩) (hf : ρ (.func 15) = .func (.func 15) #[] #[]) (hx : ρ x = v) (hy : ρ y = u) : (execOp ρ o).run Tryz.prog w = .ok (.enter 15 #[v, u]) w := by
  simp only [execOp, ho]
  go_simp
theorem c_Make (ho : o.op = .call ⟨.value (.func 6), #[x], #[29]⟩) (hf : ρ (.func 6) = .func (.func 6) #[] #[]) (hx : ρ x = v) : (execOp ρ o).run Tryz.prog w = .ok (.enter 6 #[v]) w := by
  simp only [execOp, ho]
  go_simp
theorem c_Light (ho : o.op = .call ⟨.value (.func 5), #[x], #[29]⟩) (hf : ρ (.func 5) = .func (.func 5) #[] #[]) (hx : ρ x = v) : (execOp ρ o).run Tryz.prog w = .ok (.enter 5 #[v]) w := by
  simp only [execOp, ho]
  go_simp
theorem c_Lists (ho : o.op = .call ⟨.value (.func 34), #[x], #[36]⟩) (hf : ρ (.func 34) = .func (.func 34) #[] #[]) (hx : ρ x = v) : (execOp ρ o).run Tryz.prog w = .ok (.enter 34 #[v]) w := by
  simp only [execOp, ho]
  go_simp
end
end Go.Proofs.YtfliehkmncbpnaaGreatDoor
