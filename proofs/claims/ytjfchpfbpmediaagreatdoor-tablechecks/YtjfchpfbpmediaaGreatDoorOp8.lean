/-
  An argument that is a table by small numbers, opened.
-/
import Derived.Test.YtjfchpfbpmediaaGreatDoorBs7
import Derived.Deep.Fields
import Derived.ChangeMaps5
namespace Go.Proofs.YtjfchpfbpmediaaGreatDoor
open Go.ChangeShapes Go.WideShapes Go.ChangeAt Go.RowKit Go.Deep
section
variable {H : Type} {enc : TypeId × Value → H}
/-- a struct of one-cell fields, by value -/
theorem fields8 {P : Program} {w : World} {base : Nat} {spare : Nat → Bool} {held : Bool} {r : Reach} {b0 : Nat} {t : TypeId} {fs : Array Field} {v : Value} {d : DataW H} {p : List MemPlace} (hs : P.underlying t = some (.struct fs)) (hone : oneCellFields P fs = true) (hC : P.cellsOf t = fs.size)
    (hv : Value.okWide P w r b0 t v) (h : DataW.Trod enc P w base spare held t v d p) :
    ∃ (cs : Array Value) (n : Nat), v = .agg cs ∧ cs.size = fs.size ∧ ∀ (i : Nat) (f : Field), fs[i]? = some f → ∃ (c : Value) (y : DataW H × List MemPlace), cs[i]? = some c ∧ DataW.trod enc P w base spare held n f.type [c] = some y := by
  obtain ⟨cs, rfl, hsz⟩ := okWide_struct hs hv
  obtain ⟨fuel, hf⟩ := h
  obtain ⟨xs, n, -, -, -, hlen, hg⟩ := DataW.trod_struct hs hf
  refine ⟨cs, n, rfl, hsz.trans hC, fun i f hi => ?_⟩
  obtain ⟨ho, hk⟩ := hone_of hone i f hi
  have hil : i < fs.size := (Array.getElem?_eq_some_iff.1 hi).1
  have hic : i < cs.size := by omega
  have hx : xs[i]? = some (xs[i]'(by omega)) := List.getElem?_eq_getElem (by omega)
  have h1 := hg i f hi
  rw [ho, hk, hx] at h1
  refine ⟨cs[i], xs[i]'(by omega), by simp [hic], ?_⟩
  rw [← h1]
  congr 1
  show [cs[i]] = (cs.toList.drop i).take 1
  rw [List.drop_eq_getElem_cons (by simpa using hic)]
  simp
theorem int8 {W : World} {t : TypeId} {n : Nat} {c : Value} {y : DataW H × List MemPlace} {k : IntKind} (ht : Tryz.prog.underlying t = some (.int k)) (h : DataW.trod enc Tryz.prog W 0 (fun _ => true) true n t [c] = some y) :
    ∃ x : Int, c = .int k x ∧ (Lit.int k x).wf = true := by
  obtain ⟨x, e, -, hw⟩ := DataW.trod_int ht h
  exact ⟨x, (List.cons.inj e).1, hw⟩
theorem str8 {W : World} {t : TypeId} {n : Nat} {c : Value} {y : DataW H × List MemPlace} (ht : Tryz.prog.underlying t = some .string) (h : DataW.trod enc Tryz.prog W 0 (fun _ => true) true n t [c] = some y) : ∃ s : ByteArray, c = .string s := by
  obtain ⟨s, e, -, -⟩ := DataW.trod_string ht h
  exact ⟨s, (List.cons.inj e).1⟩
set_option maxRecDepth 100000 in
theorem t8_of {W : World} {base : Nat} {v : Value} {d : DataW H} {p : List MemPlace} (hv : Value.okWide Tryz.prog W .any base 24 v) (h : DataW.Trod enc Tryz.prog W 0 (fun _ => true) true 24 v d p) :
    ∃ (K S : Int) (ca va wh : Nat) (s : ByteArray), v = .agg #[.int .i8 K, .int .i8 S, .int .u8 ca, .int .u8 va, .int .u8 wh, .string s] ∧ (-128 ≤ K ∧ K ≤ 127) ∧ (-128 ≤ S ∧ S ≤ 127) ∧ ca ≤ 255 ∧ va ≤ 255 ∧ wh ≤ 255 := by
  obtain ⟨cs, n, rfl, hsz, hf⟩ := fields8 Tryz.underlying24 (by kernel_rfl) (by kernel_rfl) hv h
  obtain ⟨l⟩ := cs
  match l, hsz with
  | [c0, c1, c2, c3, c4, c5], _ =>
    obtain ⟨_, y0, e0, t0⟩ := hf 0 _ rfl
    obtain rfl := Option.some.inj e0
    obtain ⟨_, y1, e1, t1⟩ := hf 1 _ rfl
    obtain rfl := Option.some.inj e1
    obtain ⟨_, y2, e2, t2⟩ := hf 2 _ rfl
    obtain rfl := Option.some.inj e2
    obtain ⟨_, y3, e3, t3⟩ := hf 3 _ rfl
    obtain rfl := Option.some.inj e3
    obtain ⟨_, y4, e4, t4⟩ := hf 4 _ rfl
    obtain rfl := Option.some.inj e4
    obtain ⟨_, y5, e5, t5⟩ := hf 5 _ rfl
    obtain rfl := Option.some.inj e5
    obtain ⟨K, rfl, b0⟩ := int8 Tryz.underlying22 t0
    obtain ⟨S, rfl, b1⟩ := int8 Tryz.underlying22 t1
    obtain ⟨c, rfl, b2⟩ := int8 Tryz.underlying5 t2
    obtain ⟨x, rfl, b3⟩ := int8 Tryz.underlying5 t3
    obtain ⟨y, rfl, b4⟩ := int8 Tryz.underlying5 t4
    obtain ⟨s, rfl⟩ := str8 Tryz.underlying9 t5
    have b2 := bounds_u8 b2
    have b3 := bounds_u8 b3
    have b4 := bounds_u8 b4
    obtain ⟨c', rfl⟩ : ∃ m : Nat, c = m := ⟨c.toNat, by omega⟩
    obtain ⟨x', rfl⟩ : ∃ m : Nat, x = m := ⟨x.toNat, by omega⟩
    obtain ⟨y', rfl⟩ : ∃ m : Nat, y = m := ⟨y.toNat, by omega⟩
    exact ⟨K, S, c', x', y', s, rfl, bounds_i8 b0, bounds_i8 b1, by omega, by omega, by omega⟩
end
end Go.Proofs.YtjfchpfbpmediaaGreatDoor
