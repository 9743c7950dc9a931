/-
  Contracts of plural's endsInTeen, isFew, Form, over letters.
-/
import Derived.Test.YtcplkbflpopoaaaGreatDoorEvT
import Derived.Test.YtcplkbflpopoaaaGreatDoorPl1
namespace Go.Proofs.YtcplkbflpopoaaaGreatDoor
open Go Go.RowKit
theorem teen_any (n : Nat) (h : n ≤ 9223372036854775807) (w : World) : Calls Tryz.prog 38 #[.int .i64 n] w fun e w' => e = .returned (.bool (decide (n / 10 % 10 = 1))) ∧ Below w.heap.size w w' := by
  have key : ∀ b : Bool, Sym [binE .quo (Lt 0) (.int .i64 10) (Lt 1), binE .rem (Lt 1) (.int .i64 10) (Lt 2), binE .eql (Lt 2) (.int .i64 1) (.bool b)] [] 30 38 [Lt 0] (.bool b) := by
    intro b; cases b <;> (delta Sym; show _ = _; kernel_rfl)
  let _ : Ltr := ltrL [.int .i64 n, .int .i64 (n / 10 : Nat), .int .i64 (n / 10 % 10 : Nat)]
  exact symF [.int .i64 n, .int .i64 (n / 10 : Nat), .int .i64 (n / 10 % 10 : Nat)] 30
    (ac (binE_num (is_ltr rfl) (is_flat rfl) (x_quo (m := 10) h (by omega)) (to_ltr rfl rfl)) (ac (binE_num (is_ltr rfl) (is_flat rfl) (x_rem (m := 10) (by omega)) (to_ltr rfl rfl)) (ac (binE_num (is_ltr rfl) (is_flat rfl) (x_eq (m := 1) rfl) (to_flat rfl)) an)))
    an (.cons (.ltr rfl rfl) .nil) rfl (key _)
/-- a call of one letter, known by its contract -/
theorem pe_one [Ltr] {X : Kep} {base : Nat} {f : FuncId} {i : Nat} {u r : Value} (hi : Ltr.v i = some u) (hr : flat r = true) (h : ∀ w, (∀ b, X b → w.heap[b]? = X.ob b) → Calls Tryz.prog f #[u] w fun e w' => e = .returned r ∧ Below w.heap.size w w') : PEOk Tryz.prog X base (f, patP [([Lt i], r)]) :=
  patP_ok (ac (fun E w args' k ha => by
    cases ha with
    | cons h1 t1 =>
      cases t1
      rw [is_ltr hi E _ h1]
      exact (h w k).mono fun e w' p => ⟨_, p.1, .same hr, p.2⟩) an)
end Go.Proofs.YtcplkbflpopoaaaGreatDoor
