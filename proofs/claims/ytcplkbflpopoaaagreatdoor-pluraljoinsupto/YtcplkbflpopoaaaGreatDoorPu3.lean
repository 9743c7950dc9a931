/-
  Contracts of plural's ending and Ordinal, and of the law's Ordinal, over letters.
-/
import Derived.Test.YtcplkbflpopoaaaGreatDoorPu2
import Derived.Test.YtcplkbflpopoaaaGreatDoorPl2
namespace Go.Proofs.YtcplkbflpopoaaaGreatDoor
open Go Go.RowKit
/-- two texts, one behind the other -/
theorem s_add [Ltr] {x y : Value} {j : Nat} {s t u : List UInt8} (hx : ∀ (E : Ren) z, Rel E x z → z = .string ⟨⟨s⟩⟩) (hy : ∀ (E : Ren) z, Rel E y z → z = .string ⟨⟨t⟩⟩) (hj : Ltr.v j = some (.string ⟨⟨u⟩⟩)) (hu : s ++ t = u) (hl : s.length + t.length ≤ 1000000) : OEOk Tryz.prog (binT .add 9 9 x y (Lt j)) :=
  binT_ok fun o ρ a b E w ho ha hb => by
    have e1 := hx E _ ha
    have e2 := hy E _ hb
    subst hu
    refine ⟨.string ⟨⟨s ++ t⟩⟩, ?_, .ltr hj rfl⟩
    have h1 : (⟨⟨s⟩⟩ : ByteArray) ++ ⟨⟨t⟩⟩ = ⟨⟨s ++ t⟩⟩ := by
      apply ByteArray.ext
      simp [ByteArray.data_append]
    have h2 : (⟨⟨s⟩⟩ : ByteArray).size + (⟨⟨t⟩⟩ : ByteArray).size ≤ 1000000 := hl
    rw [← h1]
    simp only [execOp, ho, e1, e2]
    go_simp
    omega
end Go.Proofs.YtcplkbflpopoaaaGreatDoor
