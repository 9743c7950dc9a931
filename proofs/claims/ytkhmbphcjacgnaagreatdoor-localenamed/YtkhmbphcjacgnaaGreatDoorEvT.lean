/-
  A run over letters at this program: the common shape; numbers that are not negative.
-/
import Derived.Test.YtkhmbphcjacgnaaGreatDoorEvS
import Derived.Test.YtkhmbphcjacgnaaGreatDoorProg
import Derived.WalkKit
import Derived.IntWalk
namespace Go.Proofs.YtkhmbphcjacgnaaGreatDoor
open Go Go.RowKit
theorem an {α : Type} {p : α → Prop} : ∀ x ∈ ([] : List α), p x := fun _ h => by cases h
theorem ac {α : Type} {p : α → Prop} {a : α} {l : List α} (h : p a) (t : ∀ x ∈ l, p x) : ∀ x ∈ a :: l, p x := fun x hx => by
  rcases List.mem_cons.1 hx with rfl | hx
  · exact h
  · exact t x hx
/-- over letters f answers v -/
def Sym (O : List OE) (l : List PE) (n : Nat) (f : FuncId) (args : List Value) (v : Value) : Prop := (callEv Tryz.prog (prL l) 64 (@codeQ (orcL O) Tryz.prog (prL l) 64 64 n false) f args ⟨64, []⟩).map (·.1) = some v
theorem mixed : Tryz.prog.follows .mixedOrders = true := by kernel_rfl
theorem symX [Ltr] {O : List OE} {l : List PE} {n : Nat} {f : FuncId} {args args' : List Value} {v : Value} {w : World} (hO : ∀ e ∈ O, OEOkX Tryz.prog (kep w) e) (hp : ∀ e ∈ l, PEOk Tryz.prog (kep w) 64 e) (ha : RelL (startE 64) args args') (e : Sym O l n f args v) :
    Calls Tryz.prog f ⟨args'⟩ w fun e w' => ∃ v' F, e = .returned v' ∧ Rel F v v' ∧ Below w.heap.size w w' :=
  (@run_sym Tryz.prog _ (orcL O) w [] 64 (orcX_ok hO) l mixed f v args args' an rfl hp n ha e).mono fun _ _ p => by
    obtain ⟨v', F, h1, _, h2, h3⟩ := p
    exact ⟨v', F, h1, h2, h3⟩
theorem symI [Ltr] {O : List OE} {l : List PE} {n : Nat} {f : FuncId} {args args' : List Value} {v : Value} {w : World} (hO : ∀ e ∈ O, OEOk Tryz.prog e) (hp : ∀ e ∈ l, PEOk Tryz.prog (kep w) 64 e) (ha : RelL (startE 64) args args') (e : Sym O l n f args v) :
    Calls Tryz.prog f ⟨args'⟩ w fun e w' => ∃ v' F, e = .returned v' ∧ Rel F v v' ∧ Below w.heap.size w w' :=
  symX (fun x hx => (hO x hx).x) hp ha e
theorem symF (L : List Value) {O : List OE} {l : List PE} (n : Nat) {f : FuncId} {args args' : List Value} {v : Value} {w : World} (hO : ∀ e ∈ O, @OEOk (ltrL L) Tryz.prog e) (hp : ∀ e ∈ l, @PEOk (ltrL L) Tryz.prog (kep w) 64 e) (ha : @RelL (ltrL L) (startE 64) args args') (hv : flat v = true) (e : Sym O l n f args v) :
    Calls Tryz.prog f ⟨args'⟩ w fun e w' => e = .returned v ∧ Below w.heap.size w w' := by
  let _ : Ltr := ltrL L
  exact (symI hO hp ha e).mono fun _ _ p => by
    obtain ⟨v', F, rfl, h2, h3⟩ := p
    rw [h2.flat_eq hv]
    exact ⟨rfl, h3⟩
section
variable {n m : Nat}
end
end Go.Proofs.YtkhmbphcjacgnaaGreatDoor
