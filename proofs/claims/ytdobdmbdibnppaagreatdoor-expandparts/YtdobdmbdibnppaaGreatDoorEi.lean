/-
  Letters: numbers of either sign.
-/
import Derived.Test.YtdobdmbdibnppaaGreatDoorEvT
namespace Go.Proofs.YtdobdmbdibnppaaGreatDoor
open Go Go.RowKit
section
variable {a b : Int}
theorem xi_add {c : Int} (e : a + b = c) (h : -9223372036854775808 ≤ c ∧ c ≤ 9223372036854775807) : binX .add (.int .i64 a) (.int .i64 b) = some (.int .i64 c) := by
  subst e
  show some (Value.int .i64 (IntKind.i64.wrap (a + b))) = _
  rw [IntWalk.i64_in _ h]
theorem xi_sub {c : Int} (e : a - b = c) (h : -9223372036854775808 ≤ c ∧ c ≤ 9223372036854775807) : binX .sub (.int .i64 a) (.int .i64 b) = some (.int .i64 c) := by
  subst e
  show some (Value.int .i64 (IntKind.i64.wrap (a - b))) = _
  rw [IntWalk.i64_in _ h]
theorem xi_lt {t : Bool} (h : decide (a < b) = t) : binX .lss (.int .i64 a) (.int .i64 b) = some (.bool t) := by
  subst h
  rfl
theorem xi_gt {t : Bool} (h : decide (a > b) = t) : binX .gtr (.int .i64 a) (.int .i64 b) = some (.bool t) := by
  subst h
  rfl
theorem xi_eq {t : Bool} (h : decide (a = b) = t) : binX .eql (.int .i64 a) (.int .i64 b) = some (.bool t) := by
  subst h
  show some (Value.bool (a == b)) = _
  rw [show (a == b) = decide (a = b) by rw [Bool.eq_iff_iff]; simp]
end
theorem xi_remk {k : IntKind} {n m : Nat} (hm : m ≠ 0) : binX .rem (.int k n) (.int k m) = some (.int k (n % m : Nat)) := by
  have h2 : (n : Int).tmod m = ((n % m : Nat) : Int) := by rw [← Int.ofNat_tmod]
  show (bif decide (k = k) then (bif decide ((m : Int) = 0) then none else some (Value.int k ((n : Int).tmod m))) else none) = _
  rw [decide_eq_true rfl, decide_eq_false (show ¬ (m : Int) = 0 by omega), h2]
  rfl
theorem xi_eqk {k : IntKind} {n m : Nat} {b : Bool} (h : decide (n = m) = b) : binX .eql (.int k n) (.int k m) = some (.bool b) := by
  subst h
  show (bif decide (k = k) then some (Value.bool ((n : Int) == m)) else none) = _
  rw [decide_eq_true rfl, show ((n : Int) == m) = decide (n = m) by rw [Bool.eq_iff_iff]; simp; omega]
  rfl
/-- a letter and a number, a letter behind -/
theorem li [Ltr] {op : BinOp} {i : Nat} {u v q r : Value} (hi : Ltr.v i = some u) (hv : flat v = true) (h : binX op u v = some q) (hr : ∀ E : Ren, Rel E r q) : OEOk Tryz.prog (binE op (Lt i) v r) := binE_num (is_ltr hi) (is_flat hv) h hr
theorem il [Ltr] {op : BinOp} {i : Nat} {u v q r : Value} (hi : Ltr.v i = some u) (hv : flat v = true) (h : binX op v u = some q) (hr : ∀ E : Ren, Rel E r q) : OEOk Tryz.prog (binE op v (Lt i) r) := binE_num (is_flat hv) (is_ltr hi) h hr
theorem ll [Ltr] {op : BinOp} {i j : Nat} {u v q r : Value} (hi : Ltr.v i = some u) (hj : Ltr.v j = some v) (h : binX op u v = some q) (hr : ∀ E : Ren, Rel E r q) : OEOk Tryz.prog (binE op (Lt i) (Lt j) r) := binE_num (is_ltr hi) (is_ltr hj) h hr
theorem cv_day [Ltr] {i j n : Nat} (hn : n ≤ 4294967295) (hi : Ltr.v i = some (.int .u32 n)) (hj : Ltr.v j = some (.int .i64 n)) : OEOk Tryz.prog (cvE 22 24 (Lt i) (Lt j)) :=
  cvE_ok fun o ρ x E w ho hx => by
    have e1 := is_ltr hi E _ hx
    refine ⟨.int .i64 n, ?_, .ltr hj rfl⟩
    have h : IntKind.i64.wrap (n : Int) = n := IntWalk.i64_in _ (by omega)
    simp only [execOp, ho, e1]
    go_simp
end Go.Proofs.YtdobdmbdibnppaaGreatDoor
