/-
  A run over letters at this program, with loops and operations over memory as entries.
-/
import Derived.Test.YtnggajehngemmaaGreatDoorEvT
import Derived.Test.YtnggajehngemmaaGreatDoorEvY
namespace Go.Proofs.YtnggajehngemmaaGreatDoor
open Go Go.RowKit
/-- over letters f answers v -/
def SymG (O : List OE) (M : List ME) (C : List CE) (l : List PE) (n : Nat) (f : FuncId) (args : List Value) (v : Value) : Prop := (callEv Tryz.prog (prL l) 64 (@codeQ (orcG 64 64 O M C) Tryz.prog (prL l) 64 64 n false) f args ⟨64, []⟩).map (·.1) = some v
/-- over letters the code b comes from s to y and s' -/
abbrev ComG (O : List OE) (M : List ME) (C : List CE) (l : List PE) (n : Nat) (b : Code) (s : St) (y : Exit) (T : Tra) (n0 : Nat) (tl : List (Nat × Nat)) (s' : St) : Prop := @comes (orcG 64 64 O M C) Tryz.prog (prL l) 64 64 n b s y T n0 tl s' = true
theorem symG [Ltr] {O : List OE} {M : List ME} {C : List CE} {l : List PE} {n : Nat} {f : FuncId} {args args' : List Value} {v : Value} {w : World} (hO : ∀ e ∈ O, OEOkX Tryz.prog (kep w) e) (hM : ∀ e ∈ M, MEOk Tryz.prog (kep w) 64 e) (hC : ∀ c ∈ C, CEOk Tryz.prog 64 (kep w) 64 c) (hp : ∀ e ∈ l, PEOk Tryz.prog (kep w) 64 e) (ha : RelL (startE 64) args args') (e : SymG O M C l n f args v) :
    Calls Tryz.prog f ⟨args'⟩ w fun e w' => ∃ v' F, e = .returned v' ∧ Rel F v v' ∧ Below w.heap.size w w' :=
  (@run_sym Tryz.prog _ (orcG 64 64 O M C) w [] 64 (orcG_ok hO hM hC) l mixed f v args args' an rfl hp n ha e).mono fun _ _ p => by
    obtain ⟨v', F, h1, _, h2, h3⟩ := p
    exact ⟨v', F, h1, h2, h3⟩
theorem symGF (L : Ltr) {O : List OE} {M : List ME} {C : List CE} {l : List PE} (n : Nat) {f : FuncId} {args args' : List Value} {v : Value} {w : World} (hO : ∀ e ∈ O, @OEOkX L Tryz.prog (kep w) e) (hM : ∀ e ∈ M, @MEOk L Tryz.prog (kep w) 64 e) (hC : ∀ c ∈ C, @CEOk L Tryz.prog 64 (kep w) 64 c) (hp : ∀ e ∈ l, @PEOk L Tryz.prog (kep w) 64 e) (ha : @RelL L (startE 64) args args') (hv : fl3 v = true) (e : SymG O M C l n f args v) :
    Calls Tryz.prog f ⟨args'⟩ w fun e w' => e = .returned v ∧ Below w.heap.size w w' :=
  (symG hO hM hC hp ha e).mono fun _ _ p => by
    obtain ⟨v', F, rfl, h2, h3⟩ := p
    rw [fl3_eq hv h2]
    exact ⟨rfl, h3⟩
/-- .. with any known calls -/
def SymP (O : List OE) (M : List ME) (C : List CE) (pr : Prim) (n : Nat) (f : FuncId) (args : List Value) (v : Value) : Prop := (callEv Tryz.prog pr 64 (@codeQ (orcG 64 64 O M C) Tryz.prog pr 64 64 n false) f args ⟨64, []⟩).map (·.1) = some v
theorem symP (L : Ltr) {O : List OE} {M : List ME} {C : List CE} {pr : Prim} (n : Nat) {f : FuncId} {args args' : List Value} {v : Value} {w : World} (hO : ∀ e ∈ O, @OEOkX L Tryz.prog (kep w) e) (hM : ∀ e ∈ M, @MEOk L Tryz.prog (kep w) 64 e) (hC : ∀ c ∈ C, @CEOk L Tryz.prog 64 (kep w) 64 c) (hp : @PrimOk L Tryz.prog pr 64 (kep w) 64) (ha : @RelL L (startE 64) args args') (hv : fl3 v = true) (e : SymP O M C pr n f args v) :
    Calls Tryz.prog f ⟨args'⟩ w fun e w' => e = .returned v ∧ Below w.heap.size w w' :=
  (@run_callQ L (orcG 64 64 O M C) Tryz.prog w pr 64 64 (@orcG_ok _ _ _ _ L _ _ _ hO hM hC) (startE 64) mixed f ⟨64, []⟩ v args args' hp n (@rep_start L 64 [] w an rfl) (fun g hg => ⟨0, by unfold startE; rw [show Nat.blt g 64 = true by simpa [Nat.blt_eq] using hg]; rfl⟩) ha e).mono fun _ _ p => by
    obtain ⟨v', F, rfl, _, h2, h3⟩ := p
    rw [fl3_eq hv h2]
    exact ⟨rfl, h3⟩
def orP (a b : Prim) : Prim := fun f args H => match a f args H with
  | some r => some r
  | none => b f args H
theorem orP_ok [Ltr] {a b : Prim} {G : Nat} {X : Kep} {base : Nat} (ha : PrimOk Tryz.prog a G X base) (hb : PrimOk Tryz.prog b G X base) : PrimOk Tryz.prog (orP a b) G X base := by
  intro f args H v H1 E w args' hR hG hr e
  unfold orP at e
  cases h : a f args H with
  | some r => rw [h] at e; obtain rfl := Option.some.inj e; exact ha f args H v H1 E w args' hR hG hr h
  | none => rw [h] at e; exact hb f args H v H1 E w args' hR hG hr e
/-- a call that has been run from this memory -/
def atP (g : FuncId) (xs : List Value) (K : RW) (v : Value) (K1 : RW) : Prim := fun f args H => bif Nat.beq f g && pqs args xs && eqW H K then some (v, K1) else none
theorem atP_ok [Ltr] [Orc] {pr : Prim} {G : Nat} {X : Kep} {base : Nat} [OrcOk Tryz.prog G X base] (hp : PrimOk Tryz.prog pr G X base) {n : Nat} {g : FuncId} {xs : List Value} {K K1 : RW} {v : Value} (e : callEv Tryz.prog pr base (codeQ Tryz.prog pr G base n false) g xs K = some (v, K1)) : PrimOk Tryz.prog (atP g xs K v K1) G X base := by
  intro f args H u H1 E w args' hR hG hr h
  unfold atP at h
  obtain ⟨hc, h⟩ := cond_some h
  simp only [Bool.and_eq_true] at hc
  obtain ⟨rfl, rfl⟩ := Prod.mk.inj (Option.some.inj h)
  rw [Nat.eq_of_beq_eq_true hc.1.1]
  rw [pqs_eq hc.1.2] at hr
  rw [eqW_eq hc.2] at hR
  rw [codeQ_eq] at e
  exact callEv_sound hp (codeEv_sound mixed hp n false) g xs K v K1 E w args' hR hG hr e
/-- the code of a round, run over letters -/
theorem toldG (L : Ltr) {w : World} {O : List OE} {M : List ME} {C : List CE} {l : List PE} (hO : ∀ e ∈ O, @OEOkX L Tryz.prog (kep w) e) (hM : ∀ e ∈ M, @MEOk L Tryz.prog (kep w) 64 e) (hC : ∀ c ∈ C, @CEOk L Tryz.prog 64 (kep w) 64 c) (hp : ∀ e ∈ l, @PEOk L Tryz.prog (kep w) 64 e)
    {L' : Ltr} {T : Tra} (hT : TraOk L L' T) (hg : ∀ p ∈ T.g, p.1.live = true) {n n0 : Nat} {tl : List (Nat × Nat)} {b : Code} {s s' : St} {y : Exit} (e : ComG O M C l n b s y T n0 tl s') {ro : Option Nat} {k : Nat} {E : Ren} {a : Act} {w' : World} (h : @FR L 64 (kep w) 64 E s a w') :
    b.wpIn (Wd ro) k Tryz.prog (fun e a' w'' => e = y ∧ ∃ F, Stays n0 E F ∧ Kp (kep w) w' w'' ∧ @FR L' 64 (kep w) 64 F s' a' w'') a w' :=
  @told Tryz.prog (prL l) 64 (kep w) 64 L (orcG 64 64 O M C) (@orcG_ok _ _ _ _ L _ _ _ hO hM hC) mixed (@prL_ok _ _ _ L _ _ hp) L' T hT hg n n0 tl b s s' y e ro k E a w' h
end Go.Proofs.YtnggajehngemmaaGreatDoor
