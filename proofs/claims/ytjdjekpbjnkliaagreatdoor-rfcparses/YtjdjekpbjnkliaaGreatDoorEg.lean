/-
  Letters: numbers of either sign.
-/
import Derived.Test.YtjdjekpbjnkliaaGreatDoorEvT
namespace Go.Proofs.YtjdjekpbjnkliaaGreatDoor
open Go Go.RowKit
section
variable {a b : Int}
theorem xi_add {c : Int} (e : a + b = c) (h : -9223372036854775808 ≤ c ∧ c ≤ 9223372036854775807) : binX .add (.int .i64 a) (.int .i64 b) = some (.int .i64 c) := by
  subst e
  show some (Value.int .i64 (IntKind.i64.wrap (a + b))) = _
  rw [IntWalk.i64_in _ h]
theorem xi_sub {c : Int} (e : a - b = c) (h : -9223372036854775808 ≤ c ∧ c ≤ 9223372036854775807) : binX .sub (.int .i64 a) (.int .i64 b) = some (.int .i64 c) := by
  subst e
  show some (Value.int .i64 (IntKind.i64.wrap (a - b))) = _
  rw [IntWalk.i64_in _ h]
theorem xi_ne {t : Bool} (h : decide (a ≠ b) = t) : binX .neq (.int .i64 a) (.int .i64 b) = some (.bool t) := by
  subst h
  show some (Value.bool (a != b)) = _
  rw [show (a != b) = decide (a ≠ b) by rw [Bool.eq_iff_iff]; simp]
theorem xi_lt {t : Bool} (h : decide (a < b) = t) : binX .lss (.int .i64 a) (.int .i64 b) = some (.bool t) := by
  subst h
  rfl
theorem xi_gt {t : Bool} (h : decide (a > b) = t) : binX .gtr (.int .i64 a) (.int .i64 b) = some (.bool t) := by
  subst h
  rfl
theorem xi_ge {t : Bool} (h : decide (a ≥ b) = t) : binX .geq (.int .i64 a) (.int .i64 b) = some (.bool t) := by
  subst h
  rfl
theorem xi_eq {t : Bool} (h : decide (a = b) = t) : binX .eql (.int .i64 a) (.int .i64 b) = some (.bool t) := by
  subst h
  show some (Value.bool (a == b)) = _
  rw [show (a == b) = decide (a = b) by rw [Bool.eq_iff_iff]; simp]
end
theorem li [Ltr] {op : BinOp} {i : Nat} {u v q r : Value} (hi : Ltr.v i = some u) (hv : flat v = true) (h : binX op u v = some q) (hr : ∀ E : Ren, Rel E r q) : OEOk Tryz.prog (binE op (Lt i) v r) := binE_num (is_ltr hi) (is_flat hv) h hr
theorem ll [Ltr] {op : BinOp} {i j : Nat} {u v q r : Value} (hi : Ltr.v i = some u) (hj : Ltr.v j = some v) (h : binX op u v = some q) (hr : ∀ E : Ren, Rel E r q) : OEOk Tryz.prog (binE op (Lt i) (Lt j) r) := binE_num (is_ltr hi) (is_ltr hj) h hr
theorem rl_nil [Ltr] : ∀ (E : Ren) (a : List Value), RelL E [] a → a = [] := fun E a h => by cases h; rfl
theorem rl_l [Ltr] {i : Nat} {u : Value} {l l' : List Value} (hi : Ltr.v i = some u) (t : ∀ (E : Ren) (a : List Value), RelL E l a → a = l') : ∀ (E : Ren) (a : List Value), RelL E (Lt i :: l) a → a = u :: l' := fun E a h => by
  cases h with
  | cons h1 t1 => rw [is_ltr hi E _ h1, t E _ t1]
theorem rl_f [Ltr] {v : Value} {l l' : List Value} (hv : flat v = true) (t : ∀ (E : Ren) (a : List Value), RelL E l a → a = l') : ∀ (E : Ren) (a : List Value), RelL E (v :: l) a → a = v :: l' := fun E a h => by
  cases h with
  | cons h1 t1 => rw [is_flat hv E _ h1, t E _ t1]
theorem pg [Ltr] {X : Kep} {f : FuncId} {l l' : List Value} {r q : Value} (hl : ∀ (E : Ren) (a : List Value), RelL E l a → a = l') (hr : ∀ E : Ren, Rel E r q) (h : ∀ w : World, (∀ b, X b → w.heap[b]? = X.ob b) → Calls Tryz.prog f ⟨l'⟩ w fun e w' => e = .returned q ∧ Below w.heap.size w w') :
    ∀ (E : Ren) (w : World) (args' : List Value), (∀ b, X b → w.heap[b]? = X.ob b) → RelL E l args' → Calls Tryz.prog f ⟨args'⟩ w fun e w' => ∃ v', e = .returned v' ∧ Rel E r v' ∧ Below w.heap.size w w' := fun E w args' k ha => by
  rw [hl E _ ha]
  exact (h w k).mono fun e w' p => ⟨_, p.1, hr E, p.2⟩
theorem pg1 [Ltr] {X : Kep} {base : Nat} {f : FuncId} {l l' : List Value} {r q : Value} (hl : ∀ (E : Ren) (a : List Value), RelL E l a → a = l') (hr : ∀ E : Ren, Rel E r q) (h : ∀ w : World, (∀ b, X b → w.heap[b]? = X.ob b) → Calls Tryz.prog f ⟨l'⟩ w fun e w' => e = .returned q ∧ Below w.heap.size w w') : PEOk Tryz.prog X base (f, patP [(l, r)]) :=
  patP_ok (ac (pg hl hr h) an)
theorem same_w {P : Program} {f : FuncId} {args : Array Value} {w : World} {v : Value} (h : Calls P f args w fun e w' => e = .returned v ∧ w = w') : Calls P f args w fun e w' => e = .returned v ∧ Below w.heap.size w w' :=
  h.mono fun e w' p => ⟨p.1, by rw [← p.2]; exact Below.refl _ _⟩
end Go.Proofs.YtjdjekpbjnkliaaGreatDoor
