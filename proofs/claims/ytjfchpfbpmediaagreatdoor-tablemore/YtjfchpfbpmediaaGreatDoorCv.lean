/-
  Numbers by another kind; the same number twice; calls of three things.
-/
import Derived.Test.YtjfchpfbpmediaaGreatDoorEvT
namespace Go.Proofs.YtjfchpfbpmediaaGreatDoor
open Go Go.RowKit
theorem cv_u8 [Ltr] {i j n : Nat} (hn : n ≤ 255) (hi : Ltr.v i = some (.int .u8 n)) (hj : Ltr.v j = some (.int .i64 n)) : OEOk Tryz.prog (cvE 5 3 (Lt i) (Lt j)) :=
  cvE_ok fun o ρ x E w ho hx => by
    have e1 := is_ltr hi E _ hx
    refine ⟨.int .i64 n, ?_, .ltr hj rfl⟩
    have h : IntKind.i64.wrap (n : Int) = n := IntWalk.i64_in _ (by omega)
    simp only [execOp, ho, e1]
    go_simp
end Go.Proofs.YtjfchpfbpmediaaGreatDoor
