/-
  The law PluralApart: every call of it returns true, from a world that holds the tables.
-/
import Derived.Test.YtcplkbflpopoaaaGreatDoorBs7
import Derived.Test.YtcplkbflpopoaaaGreatDoorCv
import Derived.Test.YtcplkbflpopoaaaGreatDoorPu4
namespace Go.Proofs.YtcplkbflpopoaaaGreatDoor
open Go Go.RowKit
theorem s_eq2 [Ltr] {i j : Nat} {s t : List UInt8} {b : Bool} (hi : Ltr.v i = some (.string ⟨⟨s⟩⟩)) (hj : Ltr.v j = some (.string ⟨⟨t⟩⟩)) (h : decide (s = t) = b) : OEOk Tryz.prog (binT .eql 9 9 (Lt i) (Lt j) (.bool b)) :=
  binT_ok fun o ρ x y E w ho hx hy => by
    have e1 := is_ltr hi E _ hx
    have e2 := is_ltr hj E _ hy
    refine ⟨.bool b, ?_, .same rfl⟩
    subst h
    simp only [execOp, ho, e1, e2]
    go_simp
    rw [Bool.eq_iff_iff]
    simp
end Go.Proofs.YtcplkbflpopoaaaGreatDoor
