/-
  Numbers by another kind; the same number twice; calls of three things.
-/
import Derived.Test.YtcplkbflpopoaaaGreatDoorEvT
namespace Go.Proofs.YtcplkbflpopoaaaGreatDoor
open Go Go.RowKit
/-- a number of another kind as an int -/
theorem cv_u32 [Ltr] {i j n : Nat} (hn : n ≤ 4294967295) (hi : Ltr.v i = some (.int .u32 n)) (hj : Ltr.v j = some (.int .i64 n)) : OEOk Tryz.prog (cvE 22 3 (Lt i) (Lt j)) :=
  cvE_ok fun o ρ x E w ho hx => by
    have e1 := is_ltr hi E _ hx
    refine ⟨.int .i64 n, ?_, .ltr hj rfl⟩
    have h : IntKind.i64.wrap (n : Int) = n := IntWalk.i64_in _ (by omega)
    simp only [execOp, ho, e1]
    go_simp
theorem cv_u8 [Ltr] {i j n : Nat} (hn : n ≤ 255) (hi : Ltr.v i = some (.int .u8 n)) (hj : Ltr.v j = some (.int .i64 n)) : OEOk Tryz.prog (cvE 5 3 (Lt i) (Lt j)) :=
  cvE_ok fun o ρ x E w ho hx => by
    have e1 := is_ltr hi E _ hx
    refine ⟨.int .i64 n, ?_, .ltr hj rfl⟩
    have h : IntKind.i64.wrap (n : Int) = n := IntWalk.i64_in _ (by omega)
    simp only [execOp, ho, e1]
    go_simp
theorem n_same [Ltr] {i : Nat} {a : Int} (hi : Ltr.v i = some (.int .i64 a)) : OEOk Tryz.prog (binE .neq (Lt i) (Lt i) (.bool false)) := binE_num (is_ltr hi) (is_ltr hi) x_nee (to_flat rfl)
theorem s_same [Ltr] {i : Nat} {s : ByteArray} (hi : Ltr.v i = some (.string s)) : OEOk Tryz.prog (binT .neq 9 9 (Lt i) (Lt i) (.bool false)) :=
  binT_ok fun o ρ x y E w ho hx hy => by
    have e1 := is_ltr hi E _ hx
    have e2 := is_ltr hi E _ hy
    refine ⟨.bool false, ?_, .same rfl⟩
    simp only [execOp, ho, e1, e2]
    go_simp
/-- calls of a number and two letters -/
theorem pat_three [Ltr] {X : Kep} {f : FuncId} {k i j : Nat} {u v r q : Value} (hi : Ltr.v i = some u) (hj : Ltr.v j = some v) (hr : ∀ E : Ren, Rel E r q) (h : ∀ w : World, (∀ b, X b → w.heap[b]? = X.ob b) → Calls Tryz.prog f #[.int .i64 k, u, v] w fun e w' => e = .returned q ∧ Below w.heap.size w w') :
    ∀ (E : Ren) (w : World) (args' : List Value), (∀ b, X b → w.heap[b]? = X.ob b) → RelL E [.int .i64 k, Lt i, Lt j] args' → Calls Tryz.prog f ⟨args'⟩ w fun e w' => ∃ v', e = .returned v' ∧ Rel E r v' ∧ Below w.heap.size w w' := fun E w args' k ha => by
  cases ha with
  | cons r1 t1 =>
    cases t1 with
    | cons r2 t2 =>
      cases t2 with
      | cons r3 t3 =>
        cases t3
        rw [is_flat rfl E _ r1, is_ltr hi E _ r2, is_ltr hj E _ r3]
        exact (h w k).mono fun e w' p => ⟨_, p.1, hr E, p.2⟩
end Go.Proofs.YtcplkbflpopoaaaGreatDoor
