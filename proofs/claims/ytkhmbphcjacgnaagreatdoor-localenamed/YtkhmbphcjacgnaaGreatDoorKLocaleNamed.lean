/-
  The law LocaleNamed: every call of it returns true, from a world that holds the tables.
-/
import Derived.Test.YtkhmbphcjacgnaaGreatDoorBs9
import Derived.Test.YtkhmbphcjacgnaaGreatDoorCv
namespace Go.Proofs.YtkhmbphcjacgnaaGreatDoor
open Go Go.RowKit
/-- a text and a letter -/
theorem s_eql [Ltr] {i : Nat} {s t : List UInt8} {b : Bool} (hi : Ltr.v i = some (.string ⟨⟨s⟩⟩)) (h : decide (s = t) = b) : OEOk Tryz.prog (binT .eql 9 9 (Lt i) (.string ⟨⟨t⟩⟩) (.bool b)) :=
  binT_ok fun o ρ x y E w ho hx hy => by
    have e1 := is_ltr hi E _ hx
    have e2 := is_flat rfl E _ hy
    refine ⟨.bool b, ?_, .same rfl⟩
    subst h
    simp only [execOp, ho, e1, e2]
    go_simp
    rw [Bool.eq_iff_iff]
    simp
theorem s_eqr [Ltr] {i : Nat} {s t : List UInt8} {b : Bool} (hi : Ltr.v i = some (.string ⟨⟨s⟩⟩)) (h : decide (t = s) = b) : OEOk Tryz.prog (binT .eql 9 9 (.string ⟨⟨t⟩⟩) (Lt i) (.bool b)) :=
  binT_ok fun o ρ x y E w ho hx hy => by
    have e2 := is_ltr hi E _ hy
    have e1 := is_flat rfl E _ hx
    refine ⟨.bool b, ?_, .same rfl⟩
    subst h
    simp only [execOp, ho, e1, e2]
    go_simp
    rw [Bool.eq_iff_iff]
    simp
noncomputable def lnP : Prim := orP (prL [(5, fixP (.bool true))]) mkP
noncomputable def lnRun (O : List OE) (v : Value) : Option (Value × RW) := callEv Tryz.prog lnP 64 (@codeQ (orcG 64 64 O [] []) Tryz.prog lnP 64 64 100 false) 3 [v] ⟨64, []⟩
def lnO : List OE := ((List.range 4).map fun i => binT .eql 9 9 (Lt 0) (.string ⟨⟨Loc.name i⟩⟩) (.bool false)) ++ (List.range 4).map fun i => binT .eql 9 9 (.string ⟨⟨Loc.name i⟩⟩) (Lt 0) (.bool false)
set_option maxRecDepth 100000 in
theorem ln_none : isBo true (lnRun lnO (Lt 0)) = true := by kernel_rfl
set_option maxRecDepth 100000 in
theorem ln_some : ((List.range 4).all fun i => isBo true (lnRun [] (.string ⟨⟨Loc.name i⟩⟩))) = true := by kernel_rfl
theorem localeNamed_walk (s : List UInt8) (w : World) (hT : Tab7 w) : Calls Tryz.prog 3 #[.string ⟨⟨s⟩⟩] w fun e w' => e = .returned (.bool true) ∧ Below w.heap.size w w' := by
  let L : Ltr := ltrL [.string ⟨⟨s⟩⟩]
  have hp : @PrimOk L Tryz.prog lnP 64 (kep w) 64 := @orP_ok L _ _ _ _ _ (@prL_ok _ _ _ L _ _ (ac (@fixP_ok _ _ _ L _ _ rfl fun w' k => awk9 w' (hT.t.keep k) (hT.m.keep k)) an)) (mkP_ok fun _ k => hT.m.keep k)
  by_cases h : ∃ i, i < 4 ∧ s = Loc.name i
  · obtain ⟨i, hi, rfl⟩ := h
    have e := List.all_eq_true.1 ln_some i (List.mem_range.2 hi)
    exact symP L 100 an an an hp (.cons (.same rfl) .nil) rfl (isBo_eq e)
  · have hO : ∀ e ∈ lnO, @OEOkX L Tryz.prog (kep w) e := by
      intro e he
      rcases List.mem_append.1 he with he | he
      · obtain ⟨i, hi, rfl⟩ := List.mem_map.1 he
        exact (@s_eql L 0 s (Loc.name i) false rfl (decide_eq_false fun q => h ⟨i, List.mem_range.1 hi, q⟩)).x
      · obtain ⟨i, hi, rfl⟩ := List.mem_map.1 he
        exact (@s_eqr L 0 s (Loc.name i) false rfl (decide_eq_false fun q => h ⟨i, List.mem_range.1 hi, q.symm⟩)).x
    exact symP L 100 hO an an hp (.cons (.ltr rfl rfl) .nil) rfl (isBo_eq ln_none)
end Go.Proofs.YtkhmbphcjacgnaaGreatDoor
