/-
  Operations and facts that laws over two made rules share.
-/
import Derived.Test.YtocpmljkmdpfkaaGreatDoorSame
import Derived.Test.YtocpmljkmdpfkaaGreatDoorLaws0
import Derived.Test.YtocpmljkmdpfkaaGreatDoorLf2
namespace Go.Proofs.YtocpmljkmdpfkaaGreatDoor
open Go.RowKit
section
variable {w : World} {ρ : Operand → Value} {o : Oper} {x y : Operand} {v u : Value} {b i : Nat}
theorem o_eqN {n d n' d' : Int} {r : Bool} (ho : o.op = .binOp .eql 55 x y 55) (hx : ρ x = .agg #[.int .i64 n, .int .i64 d]) (hy : ρ y = .agg #[.int .i64 n', .int .i64 d']) (hr : (n == n' && d == d') = r) : (execOp ρ o).run Tryz.prog w = .ok (.value (.bool r)) w := by
  subst hr
  have h1 := eqN.1 (n, d) (n', d') w
  have h2 := eqN.2 .eql x y (n, d) (n', d') w
  simp only [encN] at h1 h2
  simp only [execOp, ho, hx, hy, Sem.run_bind, h2, Result.andThen_ok, h1, Sem.run_pure]
end
theorem XIn.below {w w' : World} {F I E C U : Int} {AM AD AW AP : Option Addr} {lm ld : List Int} {lw : List (Int × Int)} {lp : List Int} (h : XIn w F I E C U AM AD AW AP lm ld lw lp) (b : Below w.heap.size w w') : XIn w' F I E C U AM AD AW AP lm ld lw lp :=
  ⟨h.bF, h.bI, h.bE, h.bC, h.bU, h.m.below b, h.d.below b, h.k.below b, h.p.below b, h.bm, h.bd, h.bk, h.bp, h.lm1, h.ld1, h.lw1, h.lp1⟩
end Go.Proofs.YtocpmljkmdpfkaaGreatDoor
