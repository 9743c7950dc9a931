/-
  A run by reckoning: the same, in small steps: each part of the code by a function of its own.
-/
import Derived.Test.YtkhmbphcjacgnaaGreatDoorEvH
namespace Go.Proofs.YtkhmbphcjacgnaaGreatDoor
open Go Go.RowKit
abbrev Rn := Code → St → Option (Exit × St)
def seqQ (r : Rn) (a b : Code) (s : St) : Option (Exit × St) :=
  match r a s with
  | some (.normal, s1) => r b s1
  | x => x
def condQ (G : Nat) (r : Rn) (x : Operand) (a b : Code) (s : St) : Option (Exit × St) :=
  match okC G x, ev s.f x with
  | true, .bool t => r (bif t then a else b) s
  | _, _ => none
def blockQ (r : Rn) (id : Nat) (b : Code) (s : St) : Option (Exit × St) :=
  match r b s with
  | some (.exit j, s1) => some (bif Nat.beq j id then .normal else .exit j, s1)
  | x => x
def thenQ (x : Option St) : Option (Exit × St) :=
  match x with
  | some s1 => some (.normal, s1)
  | none => none
def regQ [Orc] (P : Program) (pr : Prim) (G base : Nat) (r : Bool → Rn) (ops : Array Oper) (d : Bool) (s : St) : Option (Exit × St) :=
  match d with
  | false => thenQ (evOpsF P G base (callEv P pr base (r false)) (roundEv base (r true)) ops ops.toList s)
  | true => thenQ (drawEv P G base (gcCall (callEv P pr base (r false))) ops s)
def rangeQ (P : Program) (pr : Prim) (G base : Nat) (r : Bool → Rn) (rd : Bool) (g : Operand) (ps : Array Tmp) (as bd : Code) (s : St) : Option (Exit × St) :=
  bif rd then none else rangeEv P G (callEv P pr base (r false)) g ps as bd s
def loopQ [Orc] (r : St → Option (Exit × St)) (n : Nat) (b : Code) (s : St) : Option (Exit × St) :=
  match Orc.c (.loop b) s with
  | some y => some y
  | none => loopEv r n s
def stepQ [Orc] (P : Program) (pr : Prim) (G base n : Nat) (r : Bool → Rn) (rd : Bool) (c : Code) (s : St) : Option (Exit × St) :=
  match c with
  | .skip => some (.normal, s)
  | .label _ => some (.normal, s)
  | .ret => some (.ret, s)
  | .exit id => some (.exit id, s)
  | .seq a b => seqQ (r rd) a b s
  | .cond x a b => condQ G (r rd) x a b s
  | .block id b => blockQ (r rd) id b s
  | .loop b => loopQ (r rd b) n b s
  | .region _ ops d => regQ P pr G base r ops d s
  | .rangeFunc g ps as bd => rangeQ P pr G base r rd g ps as bd s
  | _ => none
def noneQ : Bool → Rn := fun _ _ _ => none
def codeQ [Orc] (P : Program) (pr : Prim) (G base : Nat) : Nat → Bool → Rn
  | 0 => noneQ
  | n + 1 => stepQ P pr G base n (codeQ P pr G base n)
theorem codeQ_eq [Orc] {P : Program} {pr : Prim} {G base : Nat} : ∀ n, codeQ P pr G base n = codeEv P pr G base n
  | 0 => rfl
  | n + 1 => by
    funext rd c s
    show stepQ P pr G base n (codeQ P pr G base n) rd c s = _
    rw [codeQ_eq n]
    cases c with
    | region id ops d => cases d <;> rfl
    | _ => rfl
/-- a call, by reckoning -/
theorem run_callQ [Ltr] [Orc] {P : Program} {w : World} {pr : Prim} {G base : Nat} [OrcOk P G (kep w) base] {E : Ren} (hm : P.follows .mixedOrders = true) {f : FuncId} {H : RW} {v : Value} {args args' : List Value} (hpr : PrimOk P pr G (kep w) base) (n : Nat) (hR : Rep (kep w) base E H w) (hG : Gl G E) (ha : RelL E args args')
    (e : (callEv P pr base (codeQ P pr G base n false) f args H).map (·.1) = some v) : Calls P f ⟨args'⟩ w fun e w' => ∃ v' F, e = .returned v' ∧ Ext E F ∧ Rel F v v' ∧ Below w.heap.size w w' :=
  run_call hm hpr n hR hG ha (by rw [codeQ_eq] at e; exact e)
end Go.Proofs.YtkhmbphcjacgnaaGreatDoor
