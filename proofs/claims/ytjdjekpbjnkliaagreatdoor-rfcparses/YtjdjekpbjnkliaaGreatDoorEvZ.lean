/-
  A run over letters at this program, with loops and operations over memory as entries.
-/
import Derived.Test.YtjdjekpbjnkliaaGreatDoorEvT
import Derived.Test.YtjdjekpbjnkliaaGreatDoorEvY
namespace Go.Proofs.YtjdjekpbjnkliaaGreatDoor
open Go Go.RowKit
def SymG (O : List OE) (M : List ME) (C : List CE) (l : List PE) (n : Nat) (f : FuncId) (args : List Value) (v : Value) : Prop := (callEv Tryz.prog (prL l) 64 (@codeQ (orcG 64 64 O M C) Tryz.prog (prL l) 64 64 n false) f args ⟨64, []⟩).map (·.1) = some v
abbrev ComG (O : List OE) (M : List ME) (C : List CE) (l : List PE) (n : Nat) (b : Code) (s : St) (y : Exit) (T : Tra) (n0 : Nat) (tl : List (Nat × Nat)) (s' : St) : Prop := @comes (orcG 64 64 O M C) Tryz.prog (prL l) 64 64 n b s y T n0 tl s' = true
theorem symG [Ltr] {O : List OE} {M : List ME} {C : List CE} {l : List PE} {n : Nat} {f : FuncId} {args args' : List Value} {v : Value} {w : World} (hO : ∀ e ∈ O, OEOkX Tryz.prog (kep w) e) (hM : ∀ e ∈ M, MEOk Tryz.prog (kep w) 64 e) (hC : ∀ c ∈ C, CEOk Tryz.prog 64 (kep w) 64 c) (hp : ∀ e ∈ l, PEOk Tryz.prog (kep w) 64 e) (ha : RelL (startE 64) args args') (e : SymG O M C l n f args v) :
    Calls Tryz.prog f ⟨args'⟩ w fun e w' => ∃ v' F, e = .returned v' ∧ Rel F v v' ∧ Below w.heap.size w w' :=
  (@run_sym Tryz.prog _ (orcG 64 64 O M C) w [] 64 (orcG_ok hO hM hC) l mixed f v args args' an rfl hp n ha e).mono fun _ _ p => by
    obtain ⟨v', F, h1, _, h2, h3⟩ := p
    exact ⟨v', F, h1, h2, h3⟩
theorem symGF (L : Ltr) {O : List OE} {M : List ME} {C : List CE} {l : List PE} (n : Nat) {f : FuncId} {args args' : List Value} {v : Value} {w : World} (hO : ∀ e ∈ O, @OEOkX L Tryz.prog (kep w) e) (hM : ∀ e ∈ M, @MEOk L Tryz.prog (kep w) 64 e) (hC : ∀ c ∈ C, @CEOk L Tryz.prog 64 (kep w) 64 c) (hp : ∀ e ∈ l, @PEOk L Tryz.prog (kep w) 64 e) (ha : @RelL L (startE 64) args args') (hv : fl3 v = true) (e : SymG O M C l n f args v) :
    Calls Tryz.prog f ⟨args'⟩ w fun e w' => e = .returned v ∧ Below w.heap.size w w' :=
  (symG hO hM hC hp ha e).mono fun _ _ p => by
    obtain ⟨v', F, rfl, h2, h3⟩ := p
    rw [fl3_eq hv h2]
    exact ⟨rfl, h3⟩
theorem toldG (L : Ltr) {w : World} {O : List OE} {M : List ME} {C : List CE} {l : List PE} (hO : ∀ e ∈ O, @OEOkX L Tryz.prog (kep w) e) (hM : ∀ e ∈ M, @MEOk L Tryz.prog (kep w) 64 e) (hC : ∀ c ∈ C, @CEOk L Tryz.prog 64 (kep w) 64 c) (hp : ∀ e ∈ l, @PEOk L Tryz.prog (kep w) 64 e)
    {L' : Ltr} {T : Tra} (hT : TraOk L L' T) (hg : ∀ p ∈ T.g, p.1.live = true) {n n0 : Nat} {tl : List (Nat × Nat)} {b : Code} {s s' : St} {y : Exit} (e : ComG O M C l n b s y T n0 tl s') {ro : Option Nat} {k : Nat} {E : Ren} {a : Act} {w' : World} (h : @FR L 64 (kep w) 64 E s a w') :
    b.wpIn (Wd ro) k Tryz.prog (fun e a' w'' => e = y ∧ ∃ F, Stays n0 E F ∧ Kp (kep w) w' w'' ∧ @FR L' 64 (kep w) 64 F s' a' w'') a w' :=
  @told Tryz.prog (prL l) 64 (kep w) 64 L (orcG 64 64 O M C) (@orcG_ok _ _ _ _ L _ _ _ hO hM hC) mixed (@prL_ok _ _ _ L _ _ hp) L' T hT hg n n0 tl b s s' y e ro k E a w' h
end Go.Proofs.YtjdjekpbjnkliaaGreatDoor
