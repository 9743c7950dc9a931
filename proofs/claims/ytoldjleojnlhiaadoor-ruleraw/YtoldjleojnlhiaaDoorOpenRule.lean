/-
  An argument that is a rule, opened.
-/
import Derived.Test.YtoldjleojnlhiaaDoorOpen
namespace Go.Proofs.YtoldjleojnlhiaaDoor
open Go.ChangeShapes Go.WideShapes Go.ChangeAt Go.RowKit Go.Deep
section
variable {H : Type} {enc : TypeId × Value → H}
theorem int_field {W : World} {t : TypeId} {n : Nat} {c : Value} {y : DataW H × List MemPlace} {k : IntKind} (ht : Tryd.prog.underlying t = some (.int k)) (h : DataW.trod enc Tryd.prog W 0 (fun _ => true) true n t [c] = some y) :
    ∃ x : Int, c = .int k x ∧ (Lit.int k x).wf = true := by
  obtain ⟨x, e, -, hw⟩ := DataW.trod_int ht h
  exact ⟨x, (List.cons.inj e).1, hw⟩
set_option maxRecDepth 100000 in
theorem rule_of {W : World} {base : Nat} {v : Value} {d : DataW H} {p : List MemPlace} (hv : Value.okWide Tryd.prog W .any base 38 v) (h : DataW.Trod enc Tryd.prog W 0 (fun _ => true) true 38 v d p) :
    ∃ (f iv c u : Int) (AM AD AW AP : Option Addr) (cM cD cW cP : Nat) (M D : List Int) (K : List (Int × Int)) (P : List Int),
      v = .agg #[.int .i64 f, .int .i64 iv, .int .i64 c, .int .i64 u, .slice AM M.length cM, .slice AD D.length cD, .slice AW K.length cW, .slice AP P.length cP] ∧ ListsIn W AM AD AW AP M D K P := by
  obtain ⟨cs, n, rfl, hsz, hf⟩ := fields_of Tryd.underlying38 (by kernel_rfl) (by kernel_rfl) hv h
  obtain ⟨l⟩ := cs
  match l, hsz with
  | [c0, c1, c2, c3, c4, c5, c6, c7], _ =>
    obtain ⟨_, y0, e0, t0⟩ := hf 0 _ rfl
    obtain rfl := Option.some.inj e0
    obtain ⟨_, y1, e1, t1⟩ := hf 1 _ rfl
    obtain rfl := Option.some.inj e1
    obtain ⟨_, y2, e2, t2⟩ := hf 2 _ rfl
    obtain rfl := Option.some.inj e2
    obtain ⟨_, y3, e3, t3⟩ := hf 3 _ rfl
    obtain rfl := Option.some.inj e3
    obtain ⟨_, y4, e4, t4⟩ := hf 4 _ rfl
    obtain rfl := Option.some.inj e4
    obtain ⟨_, y5, e5, t5⟩ := hf 5 _ rfl
    obtain rfl := Option.some.inj e5
    obtain ⟨_, y6, e6, t6⟩ := hf 6 _ rfl
    obtain rfl := Option.some.inj e6
    obtain ⟨_, y7, e7, t7⟩ := hf 7 _ rfl
    obtain rfl := Option.some.inj e7
    obtain ⟨f, rfl, -⟩ := int_field Tryd.underlying33 t0
    obtain ⟨iv, rfl, -⟩ := int_field Tryd.underlying3 t1
    obtain ⟨c, rfl, -⟩ := int_field Tryd.underlying3 t2
    obtain ⟨u, rfl, -⟩ := int_field Tryd.underlying34 t3
    obtain ⟨AM, M, cM, rfl, lM, -, iM⟩ := nums_of Tryd.underlying35 Tryd.underlying3 cellsInt t4
    obtain ⟨AD, D, cD, rfl, lD, -, iD⟩ := nums_of Tryd.underlying35 Tryd.underlying3 cellsInt t5
    obtain ⟨AW, K, cW, rfl, lW, -, iW⟩ := nths_of t6
    obtain ⟨AP, P, cP, rfl, lP, -, iP⟩ := nums_of Tryd.underlying35 Tryd.underlying3 cellsInt t7
    exact ⟨f, iv, c, u, AM, AD, AW, AP, cM, cD, cW, cP, M, D, K, P, rfl, ⟨iM, iD, iW, iP, lM, lD, lW, lP⟩⟩
end
end Go.Proofs.YtoldjleojnlhiaaDoor
