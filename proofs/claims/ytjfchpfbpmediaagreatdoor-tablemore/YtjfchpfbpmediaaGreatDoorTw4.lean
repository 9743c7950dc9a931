/-
  table: numbers by other kinds, how many values a category has, a key that is not there.
-/
import Derived.Test.YtjfchpfbpmediaaGreatDoorTw3
import Derived.Test.YtjfchpfbpmediaaGreatDoorCv
namespace Go.Proofs.YtjfchpfbpmediaaGreatDoor
open Go Go.RowKit
theorem cv_kind [Ltr] {i j n : Nat} (hn : n ≤ 255) (hi : Ltr.v i = some (.int .u8 n)) (hj : Ltr.v j = some (.int .i64 n)) : OEOk Tryz.prog (cvE 5 38 (Lt i) (Lt j)) :=
  cvE_ok fun o ρ x E w ho hx => by
    have e1 := is_ltr hi E _ hx
    refine ⟨.int .i64 n, ?_, .ltr hj rfl⟩
    have h : IntKind.i64.wrap (n : Int) = n := IntWalk.i64_in _ (by omega)
    simp only [execOp, ho, e1]
    go_simp
theorem cv_style [Ltr] {i j n : Nat} (hn : n ≤ 255) (hi : Ltr.v i = some (.int .u8 n)) (hj : Ltr.v j = some (.int .i64 n)) : OEOk Tryz.prog (cvE 5 39 (Lt i) (Lt j)) :=
  cvE_ok fun o ρ x E w ho hx => by
    have e1 := is_ltr hi E _ hx
    refine ⟨.int .i64 n, ?_, .ltr hj rfl⟩
    have h : IntKind.i64.wrap (n : Int) = n := IntWalk.i64_in _ (by omega)
    simp only [execOp, ho, e1]
    go_simp
theorem xi_eq {k : IntKind} {a b : Int} {r : Bool} (h : (a == b) = r) : binX .eql (.int k a) (.int k b) = some (.bool r) := by
  subst h
  show (bif decide (k = k) then some (Value.bool (a == b)) else none) = _
  rw [decide_eq_true rfl]
  rfl
def manyI (c : Int) : Nat := if 0 ≤ c ∧ c < 15 then Tbl.many c.toNat else 0
theorem is15 {c : Int} (h : 0 ≤ c ∧ c < 15) : c ∈ ([0, 1, 2, 3, 4, 5, 6, 7, 8, 9, 10, 11, 12, 13, 14] : List Int) := by
  have : c = 0 ∨ c = 1 ∨ c = 2 ∨ c = 3 ∨ c = 4 ∨ c = 5 ∨ c = 6 ∨ c = 7 ∨ c = 8 ∨ c = 9 ∨ c = 10 ∨ c = 11 ∨ c = 12 ∨ c = 13 ∨ c = 14 := by omega
  simpa using this
noncomputable def manyR (f : FuncId) (c : Int) : Bool :=
  match (callEv Tryz.prog (prL []) 64 (@codeQ (orcL []) Tryz.prog (prL []) 64 64 40 false) f [.int .i64 c] ⟨64, []⟩) with
  | some (.int .i64 n, _) => ibeq n (manyI c)
  | _ => false
theorem manyR_sym {f : FuncId} {c : Int} (h : manyR f c = true) : Sym [] [] 40 f [.int .i64 c] (.int .i64 (manyI c)) := by
  unfold manyR at h
  delta Sym
  split at h
  · rename_i n K e
    rw [e]
    rw [← ibeq_eq] at h
    rw [eq_of_beq h]
    rfl
  · cases h
def neq15 (i : Nat) : List OE := ([0, 1, 2, 3, 4, 5, 6, 7, 8, 9, 10, 11, 12, 13, 14] : List Int).map fun n => binE .eql (Lt i) (.int .i64 n) (.bool false)
theorem neq15_ok [Ltr] {i : Nat} {c : Int} (hi : Ltr.v i = some (.int .i64 c)) (h : ¬ (0 ≤ c ∧ c < 15)) : ∀ e ∈ neq15 i, OEOk Tryz.prog e := by
  intro e he
  obtain ⟨n, hn, rfl⟩ := List.mem_map.1 he
  refine bl hi rfl (xi_eq ?_) (to_flat rfl)
  have : c ≠ n := by
    simp only [List.mem_cons, List.not_mem_nil, or_false] at hn
    omega
  simpa using this
theorem many15 {f : FuncId} (h1 : (([0, 1, 2, 3, 4, 5, 6, 7, 8, 9, 10, 11, 12, 13, 14] : List Int).all fun c => manyR f c) = true) (h2 : Sym (neq15 0) [] 40 f [Lt 0] (.int .i64 0)) (c : Int) (w : World) : Calls Tryz.prog f #[.int .i64 c] w fun e w' => e = .returned (.int .i64 (manyI c)) ∧ Below w.heap.size w w' := by
  by_cases h : 0 ≤ c ∧ c < 15
  · have := manyR_sym (List.all_eq_true.1 h1 c (is15 h))
    let _ : Ltr := ltrL []
    exact symJ 40 an an (.cons (.same rfl) .nil) rfl this
  · have e : manyI c = 0 := if_neg h
    rw [e]
    let _ : Ltr := ltrL [.int .i64 c]
    exact symJ 40 (neq15_ok rfl h) an (.cons (.ltr rfl rfl) .nil) rfl h2
theorem many_any (c : Int) (w : World) : Calls Tryz.prog 13 #[.int .i64 c] w fun e w' => e = .returned (.int .i64 (manyI c)) ∧ Below w.heap.size w w' := many15 (by kernel_rfl) (by delta Sym; show _ = _; kernel_rfl) c w
end Go.Proofs.YtjfchpfbpmediaaGreatDoor
