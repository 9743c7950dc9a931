/-
  Contracts of plural's endsInTeen, isFew, Form, over letters.
-/
import Derived.Test.YtjfchpfbpmediaaGreatDoorEvT
import Derived.Test.YtjfchpfbpmediaaGreatDoorPl1
namespace Go.Proofs.YtjfchpfbpmediaaGreatDoor
open Go Go.RowKit
theorem teen_any (n : Nat) (h : n ≤ 9223372036854775807) (w : World) : Calls Tryz.prog 35 #[.int .i64 n] w fun e w' => e = .returned (.bool (decide (n / 10 % 10 = 1))) ∧ Below w.heap.size w w' := by
  have key : ∀ b : Bool, Sym [binE .quo (Lt 0) (.int .i64 10) (Lt 1), binE .rem (Lt 1) (.int .i64 10) (Lt 2), binE .eql (Lt 2) (.int .i64 1) (.bool b)] [] 30 35 [Lt 0] (.bool b) := by
    intro b; cases b <;> (delta Sym; show _ = _; kernel_rfl)
  let _ : Ltr := ltrL [.int .i64 n, .int .i64 (n / 10 : Nat), .int .i64 (n / 10 % 10 : Nat)]
  exact symF [.int .i64 n, .int .i64 (n / 10 : Nat), .int .i64 (n / 10 % 10 : Nat)] 30
    (ac (binE_num (is_ltr rfl) (is_flat rfl) (x_quo (m := 10) h (by omega)) (to_ltr rfl rfl)) (ac (binE_num (is_ltr rfl) (is_flat rfl) (x_rem (m := 10) (by omega)) (to_ltr rfl rfl)) (ac (binE_num (is_ltr rfl) (is_flat rfl) (x_eq (m := 1) rfl) (to_flat rfl)) an)))
    an (.cons (.ltr rfl rfl) .nil) rfl (key _)
/-- a call of one letter, known by its contract -/
theorem pe_one [Ltr] {X : Kep} {base : Nat} {f : FuncId} {i : Nat} {u r : Value} (hi : Ltr.v i = some u) (hr : flat r = true) (h : ∀ w, (∀ b, X b → w.heap[b]? = X.ob b) → Calls Tryz.prog f #[u] w fun e w' => e = .returned r ∧ Below w.heap.size w w') : PEOk Tryz.prog X base (f, patP [([Lt i], r)]) :=
  patP_ok (ac (fun E w args' k ha => by
    cases ha with
    | cons h1 t1 =>
      cases t1
      rw [is_ltr hi E _ h1]
      exact (h w k).mono fun e w' p => ⟨_, p.1, .same hr, p.2⟩) an)
theorem few_any (n : Nat) (h : n ≤ 9223372036854775807) (w : World) : Calls Tryz.prog 29 #[.int .i64 n] w fun e w' => e = .returned (.bool (Plu.few n)) ∧ Below w.heap.size w w' := by
  have key : ∀ b c d : Bool, Sym [binE .rem (Lt 0) (.int .i64 10) (Lt 1), binE .geq (Lt 1) (.int .i64 2) (.bool b), binE .leq (Lt 1) (.int .i64 4) (.bool c)] [(35, patP [([Lt 0], .bool d)])] 30 29 [Lt 0] (.bool (b && c && !d)) := by
    intro b c d; cases b <;> cases c <;> cases d <;> (delta Sym; show _ = _; kernel_rfl)
  let _ : Ltr := ltrL [.int .i64 n, .int .i64 (n % 10 : Nat)]
  exact symF [.int .i64 n, .int .i64 (n % 10 : Nat)] 30
    (ac (binE_num (is_ltr rfl) (is_flat rfl) (x_rem (m := 10) (by omega)) (to_ltr rfl rfl)) (ac (binE_num (is_ltr rfl) (is_flat rfl) (x_ge (m := 2) rfl) (to_flat rfl)) (ac (binE_num (is_ltr rfl) (is_flat rfl) (x_le (m := 4) rfl) (to_flat rfl)) an)))
    (ac (pe_one rfl rfl fun w' _ => teen_any n h w') an) (.cons (.ltr rfl rfl) .nil) rfl (key _ _ _)
theorem form_any (k n : Nat) (hk : k < 3) (h : n ≤ 9223372036854775807) (w : World) : Calls Tryz.prog 22 #[.int .i64 k, .int .i64 n] w fun e w' => e = .returned (.int .i64 (Plu.form k n)) ∧ Below w.heap.size w w' := by
  have key : ∀ (k : Nat), k < 3 → ∀ b c d : Bool, Sym [binE .eql (Lt 0) (.int .i64 1) (.bool b), binE .eql (Lt 0) (.int .i64 0) (.bool c)] [(29, patP [([Lt 0], .bool d)])] 30 22 [.int .i64 k, Lt 0]
      (.int .i64 (bif b || (Nat.beq k 1 && c) then 0 else bif Nat.beq k 2 && !d then 2 else 1)) := by
    intro k hk b c d
    have e : k = 0 ∨ k = 1 ∨ k = 2 := by omega
    clear hk
    rcases e with rfl | rfl | rfl <;> cases b <;> cases c <;> cases d <;> (delta Sym; show _ = _; kernel_rfl)
  let _ : Ltr := ltrL [.int .i64 n]
  refine (symF [.int .i64 n] 30
    (ac (binE_num (is_ltr rfl) (is_flat rfl) (x_eq (m := 1) rfl) (to_flat rfl)) (ac (binE_num (is_ltr rfl) (is_flat rfl) (x_eq (m := 0) rfl) (to_flat rfl)) an))
    (ac (pe_one rfl rfl fun w' _ => few_any n h w') an) (.cons (.same rfl) (.cons (.ltr rfl rfl) .nil)) rfl (key k hk _ _ _)).mono fun e w' p => ?_
  refine ⟨p.1.trans ?_, p.2⟩
  congr 2
  unfold Plu.form
  have e : k = 0 ∨ k = 1 ∨ k = 2 := by omega
  rcases e with rfl | rfl | rfl <;> by_cases h1 : n = 1 <;> by_cases h0 : n = 0 <;> cases hf : Plu.few n <;> simp [h1, h0, Nat.beq]
end Go.Proofs.YtjfchpfbpmediaaGreatDoor
