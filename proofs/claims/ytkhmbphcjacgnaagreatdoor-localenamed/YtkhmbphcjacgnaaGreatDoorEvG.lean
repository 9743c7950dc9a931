/-
  A run by reckoning, code, calls.
-/
import Derived.Test.YtkhmbphcjacgnaaGreatDoorEvO
namespace Go.Proofs.YtkhmbphcjacgnaaGreatDoor
open Go Go.RowKit
def loopEv (r : St → Option (Exit × St)) : Nat → St → Option (Exit × St)
  | 0, _ => none
  | m + 1, s => match r s with
    | some (.normal, s1) => loopEv r m s1
    | x => x
def ldv (P : Program) (H : RW) (t : TypeId) (i o : Nat) : Option Value :=
  match svp P (Go.isAgg t), svp P (Go.sizeOf t) with
  | some true, some n => match cellsOf H i o n with
    | some vs => some (.agg ⟨vs⟩)
    | none => none
  | some false, _ => H.cell ⟨i, o, none⟩
  | _, _ => none
def resV (P : Program) (H : RW) (f : List Value) : List ResultVar → Option (List Value)
  | [] => some []
  | .tmp t :: l => match resV P H f l with
    | some vs => some (slot f t :: vs)
    | none => none
  | .cell a t :: l => match slot f a, resV P H f l with
    | .pointer (some ⟨i, o, none⟩), some vs => match ldv P H t i o with
      | some v => some (v :: vs)
      | none => none
    | _, _ => none
def oneV : List Value → Value
  | [v] => v
  | l => .tuple ⟨l⟩
/-- flat, or some flat things -/
def fl3 (v : Value) : Bool :=
  match v with
  | .tuple ⟨l⟩ => l.all flat
  | v => flat v
/-- calls whose contract is known: a flat answer, or some, memory as it was but for new blocks -/
abbrev Prim := FuncId → List Value → RW → Option (Value × RW)
/-- a call with a flat answer that has left all as it was, new blocks apart: nobody knows of these -/
def gcCall (call : Caller) : Caller := fun f args H => match call f args H with
  | some (v, H1) => bif fl3 v && eqH (H1.h.drop (H1.h.length - H.h.length)) H.h && (H1.h.take (H1.h.length - H.h.length)).all (fun p => Nat.ble H.n p.1) then some (v, H) else some (v, H1)
  | none => none
def RW.re (H : RW) (i : Nat) (o : Ob) : RW := ⟨H.n, upd i o H.h⟩
/-- the marks' blocks, shut -/
def takeAll (base : Nat) : List Nat → RW → Option RW
  | [], H => some H
  | i :: ds, H => match look i H.h with
    | some .df => bif Nat.ble base i then takeAll base ds (H.re i .gone) else none
    | _ => none
def callEv (P : Program) (pr : Prim) (base : Nat) (r : Code → St → Option (Exit × St)) (f : FuncId) (args : List Value) (H : RW) : Option (Value × RW) :=
  match pr f args H with
  | some p => some p
  | none => match P.funcs[f]? with
  | some fn => match fn.body with
    | some c => match r c ⟨args ++ List.replicate (fn.ntmps - args.length) undef, H, []⟩ with
      | some (x, s) => bif (match x with | .normal => true | .ret => true | _ => false) then match takeAll base s.ds s.H with
          | some H2 => (resV P H2 s.f fn.results.toList).map fun l => (oneV l, H2)
          | none => none
        else none
      | none => none
    | none => none
  | none => none
def setp : List Value → List Tmp → List Value → List Value
  | f, t :: ts, v :: vs => setp (f.set t v) ts vs
  | f, _, _ => f
def jumpOf : Exit → Option (Option Code)
  | .normal => some none
  | .ret => some (some .ret)
  | .exit id => some (some (.exit id))
  | _ => none
def roundEv (base : Nat) (r : Code → St → Option (Exit × St)) : Rounder := fun l args H =>
  match look l H.h with
  | some (.lp .ready _ ts ps as bd) => bif Nat.ble base l && Nat.beq args.length ps.size then
      match r as ⟨setp ts ps.toList args, H, []⟩ with
      | some (.normal, s1) => match look l s1.H.h with
        | some (.lp .ready pd1 ts1 ps1 as1 bd1) => match r bd ⟨s1.f, s1.H.re l (.lp .busy pd1 ts1 ps1 as1 bd1), s1.ds⟩ with
          | some (e, s2) => match look l s2.H.h, jumpOf e with
            | some (.lp _ _ ts2 ps2 as2 bd2), some j => some (.bool j.isNone, s2.H.re l (.lp (if j.isNone then .ready else .done) j ts2 ps2 as2 bd2))
            | _, _ => none
          | none => none
        | _ => none
      | _ => none
    else none
  | _ => none
/-- behind the function that was ranged over: how it goes on -/
def goOn : Option Code → Option Exit
  | none => some .normal
  | some .ret => some .ret
  | some (.exit id) => some (.exit id)
  | _ => none
def isBusy : LoopState → Bool
  | .busy => true
  | _ => false
def rangeEv (P : Program) (G : Nat) (call : Caller) (g : Operand) (ps : Array Tmp) (as bd : Code) (s : St) : Option (Exit × St) :=
  match okC G g, ev s.f g with
  | true, .func (.func f) ⟨first⟩ ⟨captured⟩ => bif callOk P f then
      match call f (first ++ [.func (.yield (s.H.n + 1)) ⟨[]⟩ ⟨[]⟩] ++ captured) ((s.H.push .df).push (.lp .ready none s.f ps as bd)) with
      | some (_, H2) => match look (s.H.n + 1) H2.h with
        | some (.lp st pd ts ps2 as2 bd2) => bif isBusy st then none else match goOn pd with
          | some x => some (x, ⟨s.f, H2.re (s.H.n + 1) (.lp .exhausted pd ts ps2 as2 bd2), s.H.n :: s.ds⟩)
          | none => none
        | _ => none
      | none => none
    else none
  | _, _ => none
def codeEv [Orc] (P : Program) (pr : Prim) (G base : Nat) : Nat → Bool → Code → St → Option (Exit × St)
  | 0, _, _, _ => none
  | n + 1, rd, c, s => match c with
    | .skip => some (.normal, s)
    | .label _ => some (.normal, s)
    | .ret => some (.ret, s)
    | .exit id => some (.exit id, s)
    | .seq a b => match codeEv P pr G base n rd a s with
      | some (.normal, s1) => codeEv P pr G base n rd b s1
      | x => x
    | .cond x a b => match okC G x, ev s.f x with
      | true, .bool t => codeEv P pr G base n rd (bif t then a else b) s
      | _, _ => none
    | .block id b => match codeEv P pr G base n rd b s with
      | some (.exit j, s1) => some (bif Nat.beq j id then .normal else .exit j, s1)
      | x => x
    | .loop b => match Orc.c (.loop b) s with
      | some y => some y
      | none => loopEv (codeEv P pr G base n rd b) n s
    | .region _ ops false => match evOpsF P G base (callEv P pr base (codeEv P pr G base n false)) (roundEv base (codeEv P pr G base n true)) ops ops.toList s with
      | some s1 => some (.normal, s1)
      | none => none
    | .region _ ops true => match drawEv P G base (gcCall (callEv P pr base (codeEv P pr G base n false))) ops s with
      | some s1 => some (.normal, s1)
      | none => none
    | .rangeFunc g ps as bd => bif rd then none else rangeEv P G (callEv P pr base (codeEv P pr G base n false)) g ps as bd s
    | _ => none
end Go.Proofs.YtkhmbphcjacgnaaGreatDoor
