/-
  What the rows list of the errors' variables.
-/
import Derived.Test.YtcplkbflpopoaaaGreatDoorBs7
import Derived.Test.YtcplkbflpopoaaaGreatDoorEr
namespace Go.Proofs.YtcplkbflpopoaaaGreatDoor
open Go.ChangeShapes Go.WideShapes Go.ChangeAt Go.RowKit
theorem err_cell {P : Program} {W : World} {n nm : String} {g t : Nat} {d : DataW Unit} {ms : Array (String × TypeId)} (hr : Lib.VarReads P W n (.iface nm d)) (hg : P.globalNamed n = some g) (hty : (P.globals[g]?).map (·.type) = some t)
    (hi : P.underlying t = some (.interface ms)) : ∃ v, W.cell? ⟨g, 0, none⟩ = some v ∧ (v = .nilIface ∨ ∃ te pe, v = .iface te pe) := by
  obtain ⟨g', t', cs, fuel, p, h1, h2, h3, h4⟩ := hr
  obtain rfl := Option.some.inj (hg.symm.trans h1)
  obtain rfl := Option.some.inj (hty.symm.trans h2)
  obtain ⟨f1, u, v, e, -, -⟩ := iface_of_trod hi h4
  refine ⟨.iface u v, ?_, .inr ⟨u, v, rfl⟩⟩
  rw [World.var?_cell hg h3 0, ← Array.getElem?_toList, e]
  rfl
theorem errs_of {L : List (String × DataW Unit)} {W : World} (h : laidMet Tryz.prog L W) (m2 : ("strconv.ErrRange", Rows.laid_strconv_ErrRange) ∈ L) (m3 : ("strconv.ErrSyntax", Rows.laid_strconv_ErrSyntax) ∈ L) : Errs W where
  s := err_cell (t := 37) (Lib.laidMet.reads h m3) (by kernel_rfl) (by kernel_rfl) Tryz.underlying37
  r := err_cell (t := 37) (Lib.laidMet.reads h m2) (by kernel_rfl) (by kernel_rfl) Tryz.underlying37
end Go.Proofs.YtcplkbflpopoaaaGreatDoor
