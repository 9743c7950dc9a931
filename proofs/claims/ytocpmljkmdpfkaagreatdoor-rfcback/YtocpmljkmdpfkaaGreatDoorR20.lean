/-
  A rule in memory; the operations that load it and call Check and the law's Check.
-/
import Derived.Test.YtocpmljkmdpfkaaGreatDoorLf
namespace Go.Proofs.YtocpmljkmdpfkaaGreatDoor
open Go.RowKit
/-- a rule lies at block b -/
structure RuleAt (w : World) (b : Nat) (f iv c u : Int) (sM sD sW sP : Value) : Prop where
  lt : b < w.heap.size
  c0 : w.cell? ⟨b, 0, none⟩ = some (.int .i64 f)
  c1 : w.cell? ⟨b, 1, none⟩ = some (.int .i64 iv)
  c2 : w.cell? ⟨b, 2, none⟩ = some (.int .i64 c)
  c3 : w.cell? ⟨b, 3, none⟩ = some (.int .i64 u)
  c4 : w.cell? ⟨b, 4, none⟩ = some sM
  c5 : w.cell? ⟨b, 5, none⟩ = some sD
  c6 : w.cell? ⟨b, 6, none⟩ = some sW
  c7 : w.cell? ⟨b, 7, none⟩ = some sP
theorem RuleAt.below {w w' : World} {b : Nat} {f iv c u : Int} {sM sD sW sP : Value} (h : RuleAt w b f iv c u sM sD sW sP) (hb : Below w.heap.size w w') : RuleAt w' b f iv c u sM sD sW sP :=
  ⟨Nat.lt_of_lt_of_le h.lt hb.size, (hb.cell (p := ⟨b, 0, none⟩) h.lt).trans h.c0, (hb.cell (p := ⟨b, 1, none⟩) h.lt).trans h.c1, (hb.cell (p := ⟨b, 2, none⟩) h.lt).trans h.c2, (hb.cell (p := ⟨b, 3, none⟩) h.lt).trans h.c3,
   (hb.cell (p := ⟨b, 4, none⟩) h.lt).trans h.c4, (hb.cell (p := ⟨b, 5, none⟩) h.lt).trans h.c5, (hb.cell (p := ⟨b, 6, none⟩) h.lt).trans h.c6, (hb.cell (p := ⟨b, 7, none⟩) h.lt).trans h.c7⟩
section
variable {w : World} {ρ : Operand → Value} {o : Oper} {x y : Operand} {b : Nat} {v : Value}
theorem k_loadR {f iv c u : Int} {sM sD sW sP : Value} (ho : o.op = .load 36 x) (hx : ρ x = .pointer (some ⟨b, 0, none⟩)) (h : RuleAt w b f iv c u sM sD sW sP) :
    (execOp ρ o).run Tryz.prog w = .ok (.value (.agg #[.int .i64 f, .int .i64 iv, .int .i64 c, .int .i64 u, sM, sD, sW, sP])) w := by
  obtain ⟨-, c0, c1, c2, c3, c4, c5, c6, c7⟩ := h
  simp only [execOp, ho, hx]
  go_simp
theorem k_callCheck (ho : o.op = .call ⟨.value (.func 27), #[x], #[36]⟩) (hf : ρ (.func 27) = .func (.func 27) #[] #[]) (hx : ρ x = v) : (execOp ρ o).run Tryz.prog w = .ok (.enter 27 #[v]) w := by
  simp only [execOp, ho]
  go_simp
theorem k_assign (ho : o.op = .assign x) (hx : ρ x = v) : (execOp ρ o).run Tryz.prog w = .ok (.value v) w := by
  simp only [execOp, ho, hx]; rfl
end
end Go.Proofs.YtocpmljkmdpfkaaGreatDoor
