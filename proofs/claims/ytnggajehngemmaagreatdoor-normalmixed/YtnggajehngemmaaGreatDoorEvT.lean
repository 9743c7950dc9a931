/-
  A run over letters at this program: the common shape; numbers that are not negative.
-/
import Derived.Test.YtnggajehngemmaaGreatDoorEvS
import Derived.Test.YtnggajehngemmaaGreatDoorProg
import Derived.WalkKit
import Derived.IntWalk
namespace Go.Proofs.YtnggajehngemmaaGreatDoor
open Go Go.RowKit
theorem an {α : Type} {p : α → Prop} : ∀ x ∈ ([] : List α), p x := fun _ h => by cases h
theorem ac {α : Type} {p : α → Prop} {a : α} {l : List α} (h : p a) (t : ∀ x ∈ l, p x) : ∀ x ∈ a :: l, p x := fun x hx => by
  rcases List.mem_cons.1 hx with rfl | hx
  · exact h
  · exact t x hx
/-- over letters f answers v -/
def Sym (O : List OE) (l : List PE) (n : Nat) (f : FuncId) (args : List Value) (v : Value) : Prop := (callEv Tryz.prog (prL l) 64 (@codeQ (orcL O) Tryz.prog (prL l) 64 64 n false) f args ⟨64, []⟩).map (·.1) = some v
theorem mixed : Tryz.prog.follows .mixedOrders = true := by kernel_rfl
theorem symX [Ltr] {O : List OE} {l : List PE} {n : Nat} {f : FuncId} {args args' : List Value} {v : Value} {w : World} (hO : ∀ e ∈ O, OEOkX Tryz.prog (kep w) e) (hp : ∀ e ∈ l, PEOk Tryz.prog (kep w) 64 e) (ha : RelL (startE 64) args args') (e : Sym O l n f args v) :
    Calls Tryz.prog f ⟨args'⟩ w fun e w' => ∃ v' F, e = .returned v' ∧ Rel F v v' ∧ Below w.heap.size w w' :=
  (@run_sym Tryz.prog _ (orcL O) w [] 64 (orcX_ok hO) l mixed f v args args' an rfl hp n ha e).mono fun _ _ p => by
    obtain ⟨v', F, h1, _, h2, h3⟩ := p
    exact ⟨v', F, h1, h2, h3⟩
theorem symI [Ltr] {O : List OE} {l : List PE} {n : Nat} {f : FuncId} {args args' : List Value} {v : Value} {w : World} (hO : ∀ e ∈ O, OEOk Tryz.prog e) (hp : ∀ e ∈ l, PEOk Tryz.prog (kep w) 64 e) (ha : RelL (startE 64) args args') (e : Sym O l n f args v) :
    Calls Tryz.prog f ⟨args'⟩ w fun e w' => ∃ v' F, e = .returned v' ∧ Rel F v v' ∧ Below w.heap.size w w' :=
  symX (fun x hx => (hO x hx).x) hp ha e
/-- .. of a flat answer, or some flat ones -/
theorem symJ [Ltr] {O : List OE} {l : List PE} (n : Nat) {f : FuncId} {args args' : List Value} {v : Value} {w : World} (hO : ∀ e ∈ O, OEOk Tryz.prog e) (hp : ∀ e ∈ l, PEOk Tryz.prog (kep w) 64 e) (ha : RelL (startE 64) args args') (hv : fl3 v = true) (e : Sym O l n f args v) :
    Calls Tryz.prog f ⟨args'⟩ w fun e w' => e = .returned v ∧ Below w.heap.size w w' :=
  (symI hO hp ha e).mono fun _ _ p => by
    obtain ⟨v', F, rfl, h2, h3⟩ := p
    rw [fl3_eq hv h2]
    exact ⟨rfl, h3⟩
theorem symF (L : List Value) {O : List OE} {l : List PE} (n : Nat) {f : FuncId} {args args' : List Value} {v : Value} {w : World} (hO : ∀ e ∈ O, @OEOk (ltrL L) Tryz.prog e) (hp : ∀ e ∈ l, @PEOk (ltrL L) Tryz.prog (kep w) 64 e) (ha : @RelL (ltrL L) (startE 64) args args') (hv : flat v = true) (e : Sym O l n f args v) :
    Calls Tryz.prog f ⟨args'⟩ w fun e w' => e = .returned v ∧ Below w.heap.size w w' := by
  let _ : Ltr := ltrL L
  exact (symI hO hp ha e).mono fun _ _ p => by
    obtain ⟨v', F, rfl, h2, h3⟩ := p
    rw [h2.flat_eq hv]
    exact ⟨rfl, h3⟩
/-- .. of a letter -/
theorem symL (L : List Value) {O : List OE} {l : List PE} (n : Nat) {f : FuncId} {args args' : List Value} {i : Nat} {u : Value} {w : World} (hO : ∀ e ∈ O, @OEOk (ltrL L) Tryz.prog e) (hp : ∀ e ∈ l, @PEOk (ltrL L) Tryz.prog (kep w) 64 e) (ha : @RelL (ltrL L) (startE 64) args args') (hi : L[i]? = some u) (e : Sym O l n f args (Lt i)) :
    Calls Tryz.prog f ⟨args'⟩ w fun e w' => e = .returned u ∧ Below w.heap.size w w' := by
  let _ : Ltr := ltrL L
  exact (symI hO hp ha e).mono fun _ _ p => by
    obtain ⟨v', F, rfl, h2, h3⟩ := p
    rw [Option.some.inj (h2.letter.symm.trans hi)]
    exact ⟨rfl, h3⟩
section
variable {n m : Nat}
theorem x_quo (h : n ≤ 9223372036854775807) (hm : m ≠ 0) : binX .quo (.int .i64 n) (.int .i64 m) = some (.int .i64 (n / m : Nat)) := by
  have h2 : IntKind.i64.wrap ((n : Int).tdiv m) = ((n / m : Nat) : Int) := by
    rw [← Int.ofNat_tdiv]
    have : n / m ≤ n := Nat.div_le_self n m
    generalize n / m = q at this ⊢
    exact IntWalk.i64_in _ (by omega)
  show (bif decide ((m : Int) = 0) then none else some (Value.int .i64 (IntKind.i64.wrap ((n : Int).tdiv m)))) = _
  rw [decide_eq_false (by omega), h2]
  rfl
theorem x_rem (hm : m ≠ 0) : binX .rem (.int .i64 n) (.int .i64 m) = some (.int .i64 (n % m : Nat)) := by
  have h2 : (n : Int).tmod m = ((n % m : Nat) : Int) := by rw [← Int.ofNat_tmod]
  show (bif decide ((m : Int) = 0) then none else some (Value.int .i64 ((n : Int).tmod m))) = _
  rw [decide_eq_false (by omega), h2]
  rfl
theorem x_add (h : n + m ≤ 9223372036854775807) : binX .add (.int .i64 n) (.int .i64 m) = some (.int .i64 (n + m : Nat)) := by
  have h2 : IntKind.i64.wrap ((n : Int) + m) = ((n + m : Nat) : Int) := by
    rw [← Int.natCast_add]
    exact IntWalk.i64_in _ (by omega)
  show some (Value.int .i64 (IntKind.i64.wrap ((n : Int) + m))) = _
  rw [h2]
theorem x_eq {b : Bool} (h : decide (n = m) = b) : binX .eql (.int .i64 n) (.int .i64 m) = some (.bool b) := by
  subst h
  show some (Value.bool ((n : Int) == m)) = _
  rw [show ((n : Int) == m) = decide (n = m) by rw [Bool.eq_iff_iff]; simp; omega]
theorem x_le {b : Bool} (h : decide (n ≤ m) = b) : binX .leq (.int .i64 n) (.int .i64 m) = some (.bool b) := by
  subst h
  show some (Value.bool (decide ((n : Int) ≤ m))) = _
  rw [show decide ((n : Int) ≤ m) = decide (n ≤ m) by rw [Bool.eq_iff_iff]; simp]
theorem x_ge {b : Bool} (h : decide (m ≤ n) = b) : binX .geq (.int .i64 n) (.int .i64 m) = some (.bool b) := by
  subst h
  show some (Value.bool (decide ((n : Int) ≥ m))) = _
  rw [show decide ((n : Int) ≥ m) = decide (m ≤ n) by rw [Bool.eq_iff_iff]; simp]
theorem x_lt {b : Bool} (h : decide (n < m) = b) : binX .lss (.int .i64 n) (.int .i64 m) = some (.bool b) := by
  subst h
  show some (Value.bool (decide ((n : Int) < m))) = _
  rw [show decide ((n : Int) < m) = decide (n < m) by rw [Bool.eq_iff_iff]; simp]
theorem x_gt {b : Bool} (h : decide (m < n) = b) : binX .gtr (.int .i64 n) (.int .i64 m) = some (.bool b) := by
  subst h
  show some (Value.bool (decide ((n : Int) > m))) = _
  rw [show decide ((n : Int) > m) = decide (m < n) by rw [Bool.eq_iff_iff]; simp]
theorem x_nee {a : Int} : binX .neq (.int .i64 a) (.int .i64 a) = some (.bool false) := by
  show some (Value.bool (a != a)) = _
  simp
end
end Go.Proofs.YtnggajehngemmaaGreatDoor
