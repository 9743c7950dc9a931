/-
  A run by reckoning, code, calls.
-/
import Derived.Test.YtjfchpfbpmediaaGreatDoorEvO
import Derived.Test.YtjfchpfbpmediaaGreatDoorEvK
namespace Go.Proofs.YtjfchpfbpmediaaGreatDoor
open Go Go.RowKit
def loopEv (r : St → Option (Exit × St)) : Nat → St → Option (Exit × St)
  | 0, _ => none
  | m + 1, s => match r s with
    | some (.normal, s1) => loopEv r m s1
    | x => x
def ldv (P : Program) (H : RW) (t : TypeId) (i o : Nat) : Option Value :=
  match svp P (Go.isAgg t), svp P (Go.sizeOf t) with
  | some true, some n => match cellsOf H i o n with
    | some vs => some (.agg ⟨vs⟩)
    | none => none
  | some false, _ => H.cell ⟨i, o, none⟩
  | _, _ => none
def resV (P : Program) (H : RW) (f : List Value) : List ResultVar → Option (List Value)
  | [] => some []
  | .tmp t :: l => match resV P H f l with
    | some vs => some (slot f t :: vs)
    | none => none
  | .cell a t :: l => match slot f a, resV P H f l with
    | .pointer (some ⟨i, o, none⟩), some vs => match ldv P H t i o with
      | some v => some (v :: vs)
      | none => none
    | _, _ => none
def oneV : List Value → Value
  | [v] => v
  | l => .tuple ⟨l⟩
/-- flat, or some flat things -/
def fl3 (v : Value) : Bool :=
  match v with
  | .tuple ⟨l⟩ => l.all flat
  | v => flat v
/-- calls whose contract is known: a flat answer, or some, memory as it was but for new blocks -/
abbrev Prim := FuncId → List Value → RW → Option (Value × RW)
/-- a call with a flat answer that has left all as it was, new blocks apart: nobody knows of these -/
def gcCall (call : Caller) : Caller := fun f args H => match call f args H with
  | some (v, H1) => bif fl3 v && eqH (H1.h.drop (H1.h.length - H.h.length)) H.h && (H1.h.take (H1.h.length - H.h.length)).all (fun p => Nat.ble H.n p.1) then some (v, H) else some (v, H1)
  | none => none
def RW.re (H : RW) (i : Nat) (o : Ob) : RW := ⟨H.n, upd i o H.h⟩
/-- the marks' blocks, shut -/
def takeAll (base : Nat) : List Nat → RW → Option RW
  | [], H => some H
  | i :: ds, H => match look i H.h with
    | some .df => bif Nat.ble base i then takeAll base ds (H.re i .gone) else none
    | _ => none
def callEv (P : Program) (pr : Prim) (base : Nat) (r : Code → St → Option (Exit × St)) (f : FuncId) (args : List Value) (H : RW) : Option (Value × RW) :=
  match pr f args H with
  | some p => some p
  | none => match P.funcs[f]? with
  | some fn => match fn.body with
    | some c => match r c ⟨args ++ List.replicate (fn.ntmps - args.length) undef, H, []⟩ with
      | some (x, s) => bif (match x with | .normal => true | .ret => true | _ => false) then match takeAll base s.ds s.H with
          | some H2 => (resV P H2 s.f fn.results.toList).map fun l => (oneV l, H2)
          | none => none
        else none
      | none => none
    | none => none
  | none => none
def setp : List Value → List Tmp → List Value → List Value
  | f, t :: ts, v :: vs => setp (f.set t v) ts vs
  | f, _, _ => f
def jumpOf : Exit → Option (Option Code)
  | .normal => some none
  | .ret => some (some .ret)
  | .exit id => some (some (.exit id))
  | _ => none
def roundEv (base : Nat) (r : Code → St → Option (Exit × St)) : Rounder := fun l args H =>
  match look l H.h with
  | some (.lp .ready _ ts ps as bd) => bif Nat.ble base l && Nat.beq args.length ps.size then
      match r as ⟨setp ts ps.toList args, H, []⟩ with
      | some (.normal, s1) => match look l s1.H.h with
        | some (.lp .ready pd1 ts1 ps1 as1 bd1) => match r bd ⟨s1.f, s1.H.re l (.lp .busy pd1 ts1 ps1 as1 bd1), s1.ds⟩ with
          | some (e, s2) => match look l s2.H.h, jumpOf e with
            | some (.lp _ _ ts2 ps2 as2 bd2), some j => some (.bool j.isNone, s2.H.re l (.lp (if j.isNone then .ready else .done) j ts2 ps2 as2 bd2))
            | _, _ => none
          | none => none
        | _ => none
      | _ => none
    else none
  | _ => none
/-- behind the function that was ranged over: how it goes on -/
def goOn : Option Code → Option Exit
  | none => some .normal
  | some .ret => some .ret
  | some (.exit id) => some (.exit id)
  | _ => none
def isBusy : LoopState → Bool
  | .busy => true
  | _ => false
def rangeEv (P : Program) (G : Nat) (call : Caller) (g : Operand) (ps : Array Tmp) (as bd : Code) (s : St) : Option (Exit × St) :=
  match okC G g, ev s.f g with
  | true, .func (.func f) ⟨first⟩ ⟨captured⟩ => bif callOk P f then
      match call f (first ++ [.func (.yield (s.H.n + 1)) ⟨[]⟩ ⟨[]⟩] ++ captured) ((s.H.push .df).push (.lp .ready none s.f ps as bd)) with
      | some (_, H2) => match look (s.H.n + 1) H2.h with
        | some (.lp st pd ts ps2 as2 bd2) => bif isBusy st then none else match goOn pd with
          | some x => some (x, ⟨s.f, H2.re (s.H.n + 1) (.lp .exhausted pd ts ps2 as2 bd2), s.H.n :: s.ds⟩)
          | none => none
        | _ => none
      | none => none
    else none
  | _, _ => none
def codeEv [Orc] (P : Program) (pr : Prim) (G base : Nat) : Nat → Bool → Code → St → Option (Exit × St)
  | 0, _, _, _ => none
  | n + 1, rd, c, s => match c with
    | .skip => some (.normal, s)
    | .label _ => some (.normal, s)
    | .ret => some (.ret, s)
    | .exit id => some (.exit id, s)
    | .seq a b => match codeEv P pr G base n rd a s with
      | some (.normal, s1) => codeEv P pr G base n rd b s1
      | x => x
    | .cond x a b => match okC G x, ev s.f x with
      | true, .bool t => codeEv P pr G base n rd (bif t then a else b) s
      | _, _ => none
    | .block id b => match codeEv P pr G base n rd b s with
      | some (.exit j, s1) => some (bif Nat.beq j id then .normal else .exit j, s1)
      | x => x
    | .loop b => match Orc.c (.loop b) s with
      | some y => some y
      | none => loopEv (codeEv P pr G base n rd b) n s
    | .region _ ops false => match evOpsF P G base (callEv P pr base (codeEv P pr G base n false)) (roundEv base (codeEv P pr G base n true)) ops ops.toList s with
      | some s1 => some (.normal, s1)
      | none => none
    | .region _ ops true => match drawEv P G base (gcCall (callEv P pr base (codeEv P pr G base n false))) ops s with
      | some s1 => some (.normal, s1)
      | none => none
    | .rangeFunc g ps as bd => bif rd then none else rangeEv P G (callEv P pr base (codeEv P pr G base n false)) g ps as bd s
    | _ => none
end Go.Proofs.YtjfchpfbpmediaaGreatDoor
/-
  A run by reckoning: loops over functions: the record, the marks, a round.
-/
namespace Go.Proofs.YtjfchpfbpmediaaGreatDoor
open Go Go.RowKit
section
variable {P : Program} {pr : Prim} {G : Nat} {X : Kep} {base : Nat} {E : Ren} {H : RW} {w : World}
/-- a block that is no row of cells, put anew -/
theorem Rep.re [Ltr] (R : Rep X base E H w) {i b k : Nat} {o o' : Ob} {y : Obj} (hbi : base ≤ i) (hl : look i H.h = some o) (ho : o.live = true) (e : E i = some (b, k)) (hok : Ok E k o' (some y)) :
    Rep X base E (H.re i o') { w with heap := w.heap.setIfInBounds b y } ∧ Kp X w { w with heap := w.heap.setIfInBounds b y } := R.setOb hbi hl ho e hok
theorem run_take {b : Nat} (h : w.heap[b]? = some (.deferred (some []))) : (Instr.takeDeferred b).run P w = .ok [] { w with heap := w.heap.setIfInBounds b (.deferred none) } := by
  simp [Instr.takeDeferred, Go.getObj, Go.setObj, Sem.run, h]
theorem takeAll_leaves [Ltr] [Orc] {n : Nat} {fn : Func} {tmps : Array Value} {R : Ending → World → Prop} : ∀ {ds : List Nat} {l : List Deferred} {H H2 : RW} {w : World}, Rep X base E H w → RelD E ds l → takeAll base ds H = some H2 →
    (∀ w', Rep X base E H2 w' → Kp X w w' → ∃ v, (results fn tmps).run P w' = .ok v w' ∧ R (.returned v) w') → LeavesInM (Wd none) n P fn tmps R l .returning w
  | [], l, H, H2, w, hR, hd, e, k => by
    obtain rfl : l = [] := hd
    obtain rfl := Option.some.inj e
    exact k w hR (Kp.refl _ _)
  | i :: ds, l, H, H2, w, hR, ⟨b, kk, m, hE, hl, hd⟩, e, k => by
    subst hl
    unfold takeAll at e
    split at e
    · rename_i hlk
      obtain ⟨hb, e⟩ := cond_some e
      obtain ⟨b', k', e', h'⟩ := hR.ok i _ hlk
      rw [hE] at e'; obtain ⟨rfl, rfl⟩ := Prod.mk.inj (Option.some.inj e')
      have hx : w.heap[b]? = some (.deferred (some [])) := h'
      obtain ⟨R1, b1⟩ := hR.re (o' := .gone) (y := .deferred none) (Nat.le_of_ble_eq_true hb) hlk rfl hE trivial
      exact ⟨by simp, .inl ⟨b, _, rfl, run_take hx, takeAll_leaves R1 hd e fun w' r1 k1 => k w' r1 (b1.trans k1)⟩⟩
    · cases e
theorem setp_rel [Ltr] : ∀ {ts ts' : List Value} (ps : List Tmp) {as as' : List Value}, RelL E ts ts' → RelL E as as' → RelL E (setp ts ps as) ((ps.zip as').foldl (fun (f : List Value) (p : Tmp × Value) => f.set p.1 p.2) ts')
  | ts, ts', [], as, as', h, _ => by simpa [setp] using h
  | ts, ts', p :: ps, _, _, h, .nil => by simpa [setp] using h
  | ts, ts', p :: ps, _, _, h, .cons hv t => by
    simp only [setp, List.zip_cons_cons, List.foldl_cons]
    exact setp_rel ps (h.set hv p) t
theorem foldl_list : ∀ (l : List (Tmp × Value)) (x : Array Value), (l.foldl (fun (tmps : Array Value) (p : Tmp × Value) => tmps.setIfInBounds p.1 p.2) x).toList = l.foldl (fun (f : List Value) (p : Tmp × Value) => f.set p.1 p.2) x.toList
  | [], _ => rfl
  | p :: l, x => by
    simp only [List.foldl_cons]
    rw [foldl_list l, Array.toList_setIfInBounds]
theorem run_getLoop {b : Nat} {r : Loop} (h : w.heap[b]? = some (.loop r)) : (Instr.getLoop b).run P w = .ok r w := by
  simp [Instr.getLoop, Go.getObj, Sem.run, h]
theorem run_setLoop {b : Nat} {r r' : Loop} (h : w.heap[b]? = some (.loop r)) : (Go.setObj b (.loop r')).run P w = .ok () { w with heap := w.heap.setIfInBounds b (.loop r') } := by
  simp [Go.setObj, Sem.run, h]
end
end Go.Proofs.YtjfchpfbpmediaaGreatDoor
/-
  A run by reckoning: a round of a loop over a function; the statement.
-/
namespace Go.Proofs.YtjfchpfbpmediaaGreatDoor
open Go Go.RowKit
section
variable {P : Program} {pr : Prim} {G : Nat} {X : Kep} {base : Nat} {E : Ren}
def CodeOk [Ltr] (P : Program) (G : Nat) (X : Kep) (base : Nat) (rd : Bool) (r : Code → St → Option (Exit × St)) : Prop :=
  ∀ (ro : Option Nat) (n : Nat), (rd = true ∨ ro = none) → ∀ c s x s1 E a w, FR G X base E s a w → r c s = some (x, s1) → c.wpIn (Wd ro) n P (Post G X base E w x s1) a w
theorem Rep.loop [Ltr] {H : RW} {w : World} (R : Rep X base E H w) {l b k : Nat} {st : LoopState} {pd : Option Code} {ts : List Value} {ps : Array Tmp} {as bd : Code} (hl : look l H.h = some (.lp st pd ts ps as bd)) (hE : E l = some (b, k)) :
    ∃ fn xs db, w.heap[b]? = some (.loop { state := st, pending := pd, fn := fn, tmps := ⟨xs⟩, params := ps, assign := as, body := bd, defers := db }) ∧ RelL E ts xs := by
  obtain ⟨b', k', e', h'⟩ := R.ok l _ hl
  rw [hE] at e'; obtain ⟨rfl, rfl⟩ := Prod.mk.inj (Option.some.inj e')
  exact h'
theorem roundEv_sound [Ltr] [Orc] {r : Code → St → Option (Exit × St)} (hr : CodeOk P G X base true r) : RoundOk P G X base (roundEv base r) := by
  intro l args H v H1 E w b k args' hR hG hE ha e
  unfold roundEv at e
  split at e
  · rename_i pd ts ps as bd hl
    obtain ⟨hck, e⟩ := cond_some e
    simp only [Bool.and_eq_true] at hck
    have hbl := Nat.le_of_ble_eq_true hck.1
    have hlen := Nat.eq_of_beq_eq_true hck.2
    obtain ⟨fn, xs, db, hx, rx⟩ := hR.loop hl hE
    split at e
    · rename_i s1 has
      split at e
      · rename_i pd1 ts1 ps1 as1 bd1 hl1
        split at e
        · rename_i e2 s2 hbd
          split at e
          · rename_i st2 pd2 ts2 ps2 as2 bd2 j hl2 hj
            obtain ⟨rfl, rfl⟩ := Prod.mk.inj (Option.some.inj e)
            refine ⟨fn, ((ps.zip ⟨args'⟩).foldl (fun tmps (t, a) => tmps.setIfInBounds t a) ⟨xs⟩), as, bd, ?_, fun n => ?_⟩
            · show (Instr.getLoop b >>= _).run P w = _
              rw [Sem.run_bind, run_getLoop hx, Result.andThen_ok]
              dsimp only
              rw [if_neg (by simp [ha.length, hlen])]
              rfl
            · have hfold : ((ps.zip ⟨args'⟩).foldl (fun tmps (t, a) => tmps.setIfInBounds t a) (⟨xs⟩ : Array Value)).toList = (ps.toList.zip args').foldl (fun (f : List Value) (p : Tmp × Value) => f.set p.1 p.2) xs := by
                rw [← Array.foldl_toList]
                have := foldl_list (ps.zip (⟨args'⟩ : Array Value)).toList ⟨xs⟩
                rw [Array.toList_zip] at this ⊢
                exact this
              have fr : FR G X base E ⟨setp ts ps.toList args, H, []⟩ { tmps := (ps.zip ⟨args'⟩).foldl (fun tmps (t, a) => tmps.setIfInBounds t a) ⟨xs⟩, defers := [] } w := by
                refine ⟨rfl, ?_, hR, hG⟩
                rw [hfold]
                exact setp_rel ps.toList rx ha
              refine roundIn_of_wpIn (wd_fn fn) ?_
              refine wpIn_mono (hr (some b) n (.inl rfl) as _ .normal s1 E _ w fr has) ?_
              rintro en a1 w1 ⟨rfl, F, x1, R1, b1⟩
              obtain ⟨fn1, xs1, db1, hx1, rx1⟩ := R1.r.loop hl1 (x1 _ _ hE)
              obtain ⟨R2, b2⟩ := R1.r.re (o' := .lp .busy pd1 ts1 ps1 as1 bd1) (y := .loop { state := .busy, pending := pd1, fn := fn1, tmps := ⟨xs1⟩, params := ps1, assign := as1, body := bd1, defers := db1 }) hbl hl1 rfl (x1 _ _ hE) ⟨fn1, xs1, db1, rfl, rx1⟩
              refine ⟨_, ?_, wpIn_mono (hr (some b) n (.inl rfl) bd ⟨s1.f, s1.H.re l (.lp .busy pd1 ts1 ps1 as1 bd1), s1.ds⟩ e2 s2 F a1 _ ⟨R1.d, R1.t, R2, R1.g⟩ hbd) ?_⟩
              · show (Instr.getLoop b >>= _).run P w1 = _
                rw [Sem.run_bind, run_getLoop hx1, Result.andThen_ok, Sem.run_bind, run_setLoop hx1, Result.andThen_ok]
                rfl
              rintro en a2 w2 ⟨rfl, K, x2, R3, b3⟩
              obtain ⟨fn2, xs2, db2, hx2, rx2⟩ := R3.r.loop hl2 (x2 _ _ (x1 _ _ hE))
              obtain ⟨R4, b4⟩ := R3.r.re (o' := .lp (if j.isNone then .ready else .done) j ts2 ps2 as2 bd2) (y := .loop { state := if j.isNone then .ready else .done, pending := j, fn := fn2, tmps := ⟨xs2⟩, params := ps2, assign := as2, body := bd2, defers := db2 }) hbl hl2 rfl (x2 _ _ (x1 _ _ hE)) ⟨fn2, xs2, db2, rfl, rx2⟩
              have hend : (Instr.endRound b j).run P w2 = .ok (.bool j.isNone) { w2 with heap := w2.heap.setIfInBounds b (.loop { state := if j.isNone then .ready else .done, pending := j, fn := fn2, tmps := ⟨xs2⟩, params := ps2, assign := as2, body := bd2, defers := db2 }) } := by
                show (Instr.getLoop b >>= _).run P w2 = _
                rw [Sem.run_bind, run_getLoop hx2, Result.andThen_ok, Sem.run_bind, run_setLoop hx2, Result.andThen_ok]
                rfl
              have fin : ∃ v w', (Instr.endRound b j).run P w2 = .ok v w' ∧ ∃ v' F, Ending.returned v = .returned v' ∧ Ext E F ∧ Rep X base F (s2.H.re l (.lp (if j.isNone then .ready else .done) j ts2 ps2 as2 bd2)) w' ∧ Kp X w w' ∧ Rel F (.bool j.isNone) v' :=
                ⟨_, _, hend, _, K, rfl, x1.trans x2, R4, ((b1.trans b2).trans b3).trans b4, .same rfl⟩
              cases en with
              | normal => obtain rfl := Option.some.inj hj; exact fin
              | ret => obtain rfl := Option.some.inj hj; exact fin
              | exit id => obtain rfl := Option.some.inj hj; exact fin
              | _ => cases hj
          · cases e
        · cases e
      · cases e
    · cases e
  · cases e
theorem rangeEv_sound [Ltr] [Orc] {call : Caller} (hc : CallOk P G X base call) {g : Operand} {ps : Array Tmp} {as bd : Code} {s s1 : St} {x : Exit} {a : Act} {w : World} {n : Nat} (h : FR G X base E s a w) (e : rangeEv P G call g ps as bd s = some (x, s1)) :
    (Code.rangeFunc g ps as bd).wpIn (Wd none) n P (Post G X base E w x s1) a w := by
  unfold rangeEv at e
  split at e
  · rename_i f first captured hk hev
    obtain ⟨hok, e⟩ := cond_some e
    split at e
    · rename_i v H2 hcl
      split at e
      · rename_i st pd ts ps2 as2 bd2 hl2
        cases hbz : isBusy st with
        | true => rw [hbz] at e; cases e
        | false =>
          rw [hbz] at e
          dsimp only [cond_false] at e
          cases hgo : goOn pd with
          | none => rw [hgo] at e; cases e
          | some x' =>
            rw [hgo] at e
            obtain ⟨rfl, rfl⟩ := Prod.mk.inj (Option.some.inj e)
            refine wpIn_rangeFunc fun fn _ => ?_
            have hg := ev_rel h hk
            rw [hev] at hg
            let w1 : World := { w with heap := w.heap.push (.deferred (some [])) }
            let lp : Loop := { state := .ready, pending := none, fn := fn, tmps := a.tmps, params := ps, assign := as, body := bd, defers := w.heap.size }
            let w2 : World := { w1 with heap := w1.heap.push (.loop lp) }
            obtain ⟨p1, p2, p3⟩ := h.r.push (o := .df) (x := .deferred (some [])) (k := 0) (fun F x => rfl)
            obtain ⟨q1, q2, q3⟩ := p1.push (o := .lp .ready none s.f ps as bd) (x := .loop lp) (k := 0) (fun F x => ⟨fn, a.tmps.toList, w.heap.size, rfl, RelL.mono (p2.trans x) h.t⟩)
            have hsz : w1.heap.size = w.heap.size + 1 := by simp [w1]
            have hyl : Rel ((E.new s.H.n w.heap.size 0).new (s.H.push .df).n w1.heap.size 0) (.func (.yield (s.H.n + 1)) ⟨[]⟩ ⟨[]⟩) (.func (.yield w1.heap.size) ⟨[]⟩ ⟨[]⟩) := .yld Ren.at
            have mk : ∀ first' captured' : List Value, a.eval g = .func (.func f) ⟨first'⟩ ⟨captured'⟩ → RelL E first first' → RelL E captured captured' →
                ∃ (l : Nat) (mark : List Deferred) (w₁ : World) (d : Deferred) (w₁' : World) (f : FuncId) (args : Array Value) (w₂ : World),
                  (Instr.enterLoop fn a.tmps ps as bd (Wd none).round).run P w = .ok (l, mark) w₁ ∧ (resolve a.eval (rangeCall g l) 0).run P w₁ = .ok d w₁' ∧
                  (∀ f', Target.leads P w₁' d.target d.args = some f' → (Wd none).fn f') ∧ (invoke d.target d.args).run P w₁' = .ok (.enter f args) w₂ ∧
                  ((Wd none).depth.isSome = true → 1 ≤ n) ∧ CallsIn (Wd none) (n - 1) P f args w₂ (rangePost (Wd none) n P l (Post G X base E w x' ⟨s.f, H2.re (s.H.n + 1) (.lp .exhausted pd ts ps2 as2 bd2), s.H.n :: s.ds⟩) { a with defers := mark ++ a.defers }) := by
              intro first' captured' hag r1 r2
              refine ⟨w1.heap.size, [{ target := .collected w.heap.size, args := #[] }], w2, { target := .fn (.func f) ⟨captured'⟩, args := ⟨first'⟩ ++ #[.func (.yield w1.heap.size) #[] #[]] }, w2, f, ⟨first' ++ [.func (.yield w1.heap.size) ⟨[]⟩ ⟨[]⟩] ++ captured'⟩, w2, rfl, ?_, fun f' _ => wd_fn f', ?_, wd_depth, ?_⟩
              · simp only [resolve, Deferred.ofValue, hag]
                simp [Act.eval]
              · show (callFunc f _).run P w2 = _
                rw [run_callFunc_of hok w2]
                simp
              · have ra : RelL ((E.new s.H.n w.heap.size 0).new (s.H.push .df).n w1.heap.size 0) (first ++ [.func (.yield (s.H.n + 1)) ⟨[]⟩ ⟨[]⟩] ++ captured) (first' ++ [.func (.yield w1.heap.size) ⟨[]⟩ ⟨[]⟩] ++ captured') :=
                  ((r1.mono (p2.trans q2)).append (.cons hyl .nil)).append (r2.mono (p2.trans q2))
                refine CallsIn.mono (calls_wd (hc f _ _ v H2 _ w2 _ q1 (h.g.mono (p2.trans q2)) ra hcl)) fun en w3 p => ?_
                obtain ⟨v', F, rfl, x1, R3, b3, _⟩ := p
                have hEl : F (s.H.n + 1) = some (w1.heap.size, 0) := x1 _ _ Ren.at
                have hED : F s.H.n = some (w.heap.size, 0) := x1 _ _ (q2 _ _ Ren.at)
                obtain ⟨fn3, xs3, db3, hx3, rx3⟩ := R3.loop hl2 hEl
                have hbl : base ≤ s.H.n + 1 := Nat.le_succ_of_le h.r.bn
                obtain ⟨R4, b4⟩ := R3.re (o' := .lp .exhausted pd ts ps2 as2 bd2) (y := .loop { state := .exhausted, pending := pd, fn := fn3, tmps := ⟨xs3⟩, params := ps2, assign := as2, body := bd2, defers := db3 }) hbl hl2 rfl hEl ⟨fn3, xs3, db3, rfl, rx3⟩
                have hstb : (st == LoopState.busy) = false := by cases st <;> first | rfl | cases hbz
                refine ⟨pd, { w3 with heap := w3.heap.setIfInBounds w1.heap.size (.loop { state := .exhausted, pending := pd, fn := fn3, tmps := ⟨xs3⟩, params := ps2, assign := as2, body := bd2, defers := db3 }) }, ?_, ?_⟩
                · show (Instr.getLoop w1.heap.size >>= _).run P w3 = _
                  rw [Sem.run_bind, run_getLoop hx3, Result.andThen_ok]
                  dsimp only
                  rw [hstb]
                  show (Go.setObj _ _ >>= _).run P w3 = _
                  rw [Sem.run_bind, run_setLoop hx3, Result.andThen_ok]
                  rfl
                · have post : ∀ y : Exit, y = x' → Post G X base E w x' ⟨s.f, H2.re (s.H.n + 1) (.lp .exhausted pd ts ps2 as2 bd2), s.H.n :: s.ds⟩ y { a with defers := [{ target := .collected w.heap.size, args := #[] }] ++ a.defers }
                      { w3 with heap := w3.heap.setIfInBounds w1.heap.size (.loop { state := .exhausted, pending := pd, fn := fn3, tmps := ⟨xs3⟩, params := ps2, assign := as2, body := bd2, defers := db3 }) } := by
                    intro y hy
                    have hx := (p2.trans q2).trans x1
                    exact ⟨hy, F, hx, ⟨⟨w.heap.size, 0, a.defers, hED, rfl, h.d.mono hx⟩, RelL.mono hx h.t, R4, h.g.mono hx⟩, ((p3.trans q3).trans b3).trans b4⟩
                  cases pd with
                  | none => obtain rfl := Option.some.inj hgo; exact post _ rfl
                  | some c =>
                    cases c with
                    | ret => obtain rfl := Option.some.inj hgo; exact wpIn_ret (post _ rfl)
                    | exit id => obtain rfl := Option.some.inj hgo; exact wpIn_exit (post _ rfl)
                    | _ => cases hgo
            generalize hz : a.eval g = z at hg
            cases hg with
            | same hf =>
              cases first with
              | cons p l => cases hf
              | nil => cases captured with
                | cons p l => cases hf
                | nil => exact mk [] [] hz .nil .nil
            | func r1 r2 => exact mk _ _ hz r1 r2
      · cases e
    · cases e
  · cases e
end
end Go.Proofs.YtjfchpfbpmediaaGreatDoor
