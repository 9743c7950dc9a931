/-
  Operations and facts that laws over two made rules share.
-/
import Derived.Test.YtfliehkmncbpnaaGreatDoorSame
import Derived.Test.YtfliehkmncbpnaaGreatDoorLaws0
import Derived.Test.YtfliehkmncbpnaaGreatDoorLf2
namespace Go.Proofs.YtfliehkmncbpnaaGreatDoor
open Go.RowKit
section
variable {w : World} {ρ : Operand → Value} {o : Oper} {x y : Operand} {v u : Value} {b i : Nat}
theorem k_store9 {old cs : Array Value} (ho : o.op = .store 29 x y) (hx : ρ x = .pointer (some ⟨b, 0, none⟩)) (hy : ρ y = .agg cs) (hb : Blk w b 29 old) (h8 : cs.size = 9) (ho8 : old.size = 9) (h1 : cs.all (·.oneCell') = true) :
    (execOp ρ o).run Tryz.prog w = .ok .skip (w.setRow b cs) := by
  have hr := run_storeVar_row (P := Tryz.prog) w b 29 29 old cs hb (by rw [h8]; kernel_rfl) (by rw [ho8, h8]) h1
  simp only [execOp, ho, hx, hy, Instr.storeAt, Instr.sureAddr, Sem.run_bind, Sem.run_pure, Result.andThen_ok, hr]
theorem k_storeB {t : TypeId} {cs : Array Value} {n : Int} (ho : o.op = .store 5 x y) (hx : ρ x = .pointer (some ⟨b, i, none⟩)) (hy : ρ y = .int .u8 n) (hb : Blk w b t cs) (hi : i < cs.size) :
    (execOp ρ o).run Tryz.prog w = .ok .skip (w.setCell ⟨b, i, none⟩ (.int .u8 n)) := by
  have hc := hb.cell i
  have hf := hb.frozen i
  rw [Array.getElem?_eq_getElem hi] at hc
  simp only [execOp, ho, hx, hy]
  go_simp
theorem o_addB {n m r : Int} (ho : o.op = .binOp .add 5 x y 5) (hx : ρ x = .int .u8 n) (hy : ρ y = .int .u8 m) (hr : IntKind.u8.wrap (n + m) = r) : (execOp ρ o).run Tryz.prog w = .ok (.value (.int .u8 r)) w := by
  subst hr
  simp only [execOp, ho, hx, hy]
  go_simp
theorem o_eqBool {p q r : Bool} (ho : o.op = .binOp .eql 4 x y 4) (hx : ρ x = .bool p) (hy : ρ y = .bool q) (hr : (p == q) = r) : (execOp ρ o).run Tryz.prog w = .ok (.value (.bool r)) w := by
  subst hr
  simp only [execOp, ho, hx, hy]
  go_simp
theorem c_Order (ho : o.op = .call ⟨.value (.func 85), #[x, y], #[45, 45]⟩) (hf : ρ (.func 85) = .func (.func 85) #[] #[]) (hx : ρ x = v) (hy : ρ y = u) : (execOp ρ o).run Tryz.prog w = .ok (.enter 85 #[v, u]) w := by
  simp only [execOp, ho]
  go_simp
theorem k_boxN {cs : Array Value} (ho : o.op = .box 45 x) (hx : ρ x = .agg cs) : (execOp ρ o).run Tryz.prog w = .ok (.value (.pointer (some ⟨w.heap.size, 0, none⟩))) (w.alloc (.cells cs 45)) := by
  simp only [execOp, ho, hx]
  go_simp
theorem o_eqN {n d n' d' : Int} {r : Bool} (ho : o.op = .binOp .eql 45 x y 45) (hx : ρ x = .agg #[.int .i64 n, .int .i64 d]) (hy : ρ y = .agg #[.int .i64 n', .int .i64 d']) (hr : (n == n' && d == d') = r) : (execOp ρ o).run Tryz.prog w = .ok (.value (.bool r)) w := by
  subst hr
  have h1 := eqN.1 (n, d) (n', d') w
  have h2 := eqN.2 .eql x y (n, d) (n', d') w
  simp only [encN] at h1 h2
  simp only [execOp, ho, hx, hy, Sem.run_bind, h2, Result.andThen_ok, h1, Sem.run_pure]
end
theorem XIn.below {w w' : World} {F I E C U : Int} {AM AD AW AP : Option Addr} {lm ld : List Int} {lw : List (Int × Int)} {lp : List Int} (h : XIn w F I E C U AM AD AW AP lm ld lw lp) (b : Below w.heap.size w w') : XIn w' F I E C U AM AD AW AP lm ld lw lp :=
  ⟨h.bF, h.bI, h.bE, h.bC, h.bU, h.m.below b, h.d.below b, h.k.below b, h.p.below b, h.bm, h.bd, h.bk, h.bp, h.lm1, h.ld1, h.lw1, h.lp1⟩
theorem u8_wrap (n : Int) : 0 ≤ IntKind.u8.wrap n ∧ IntKind.u8.wrap n ≤ 255 := by
  unfold IntKind.wrap
  simp [IntKind.bits, IntKind.signed]
  omega
/-- chapter 2's order, as the law asks it -/
def lessB (n d n' d' : Int) : Bool := decide (n < n') || (n == n' && decide (d < d'))
theorem less_cmp (n d n' d' : Int) : decide (Rul.cmpN (n, d) (n', d') < 0) = lessB n d n' d' := by
  have := @Rul.cmpN_neg (n, d) (n', d')
  rw [Bool.eq_iff_iff]
  simp only [lessB, decide_eq_true_eq, Bool.or_eq_true, Bool.and_eq_true, beq_iff_eq]
  exact this
theorem zero_cmp (n d n' d' : Int) : (Rul.cmpN (n, d) (n', d') == 0) = (n == n' && d == d') := by
  have h1 := @Rul.cmpI_zero n n'
  have h2 := @Rul.cmpI_zero d d'
  rw [Bool.eq_iff_iff]
  simp only [Bool.and_eq_true, beq_iff_eq]
  unfold Rul.cmpN
  simp only
  split <;> omega
end Go.Proofs.YtfliehkmncbpnaaGreatDoor
