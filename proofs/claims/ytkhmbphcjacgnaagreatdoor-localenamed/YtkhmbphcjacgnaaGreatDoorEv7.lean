/-
  A run by reckoning, part 7: regions, code, calls.
-/
import Derived.Test.YtkhmbphcjacgnaaGreatDoorEvE
import Derived.Test.YtkhmbphcjacgnaaGreatDoorEvP
import Derived.OrdersIn
import Derived.RangeFuncLeaves
namespace Go.Proofs.YtkhmbphcjacgnaaGreatDoor
open Go Go.RowKit
structure St where
  f : List Value
  H : RW
  ds : List Nat
/-- any function, any depth; a round's frame, or none -/
def Wd (ro : Option Nat) : Fence := { Fence.wide with round := ro }
def slot : List Value → Nat → Value
  | [], _ => undef
  | v :: _, 0 => v
  | _ :: l, n + 1 => slot l n
def ev (f : List Value) : Operand → Value
  | .tmp t => slot f t
  | .const v => v
  | .global g => .pointer (some ⟨g, 0, none⟩)
  | .func g => .func (.func g) #[] #[]
def okC (G : Nat) : Operand → Bool
  | .const v => flat v
  | .global g => Nat.blt g G
  | _ => true
def Gl (G : Nat) (E : Ren) : Prop := ∀ g, g < G → ∃ k, E g = some (g, k)
theorem Gl.mono {G : Nat} {E F : Ren} (x : Ext E F) (h : Gl G E) : Gl G F := fun g hg => let ⟨k, e⟩ := h g hg; ⟨k, x _ _ e⟩
/-- the marks of loops that have been begun -/
def RelD (E : Ren) : List Nat → List Deferred → Prop
  | [], l => l = []
  | i :: ds, l => ∃ b k m, E i = some (b, k) ∧ l = { target := .collected b, args := #[] } :: m ∧ RelD E ds m
theorem RelD.mono {E F : Ren} (x : Ext E F) : ∀ {ds : List Nat} {l : List Deferred}, RelD E ds l → RelD F ds l
  | [], _, h => h
  | _ :: _, _, ⟨b, k, m, e, hl, h⟩ => ⟨b, k, m, x _ _ e, hl, h.mono x⟩
structure FR [Ltr] (G : Nat) (X : Kep) (base : Nat) (E : Ren) (s : St) (a : Act) (w : World) : Prop where
  d : RelD E s.ds a.defers
  t : RelL E s.f a.tmps.toList
  r : Rep X base E s.H w
  g : Gl G E
section
variable {P : Program} {G : Nat} {X : Kep} {base : Nat} {E : Ren}
theorem slot_rel [Ltr] {l l' : List Value} : RelL E l l' → ∀ t, Rel E (slot l t) (l'.getD t undef)
  | .nil, t => by simpa [slot] using Rel.same (E := E) (v := undef) rfl
  | .cons h _, 0 => by simpa [slot] using h
  | .cons _ k, t + 1 => by simpa [slot] using slot_rel k t
theorem getD_toList (x : Array Value) (t : Nat) : x.getD t undef = x.toList.getD t undef := by
  rw [Array.getD_eq_getD_getElem?, List.getD_eq_getElem?_getD]
  simp
theorem ev_rel [Ltr] {s : St} {a : Act} {w : World} (h : FR G X base E s a w) {x : Operand} (hk : okC G x = true) : Rel E (ev s.f x) (a.eval x) := by
  cases x with
  | tmp t => rw [Act.eval, getD_toList]; exact slot_rel h.t t
  | const v => exact .same hk
  | global g => obtain ⟨k, e⟩ := h.g g (by simpa [okC, Nat.blt_eq] using hk); exact .ptr e
  | func g => exact .same rfl
def pt (d : Option Tmp) (v : Value) (f : List Value) : List Value :=
  match d with
  | some d => f.set d v
  | none => f
theorem FR.put [Ltr] {F : Ren} {s : St} {a : Act} {w w' : World} (h : FR G X base E s a w) {H1 : RW} (x : Ext E F) (R : Rep X base F H1 w') {v v' : Value} (hv : Rel F v v') (d : Option Tmp) : FR G X base F ⟨pt d v s.f, H1, s.ds⟩ (a.put d v') w' := by
  cases d with
  | none => exact ⟨h.d.mono x, RelL.mono x h.t, R, h.g.mono x⟩
  | some d =>
    refine ⟨h.d.mono x, ?_, R, h.g.mono x⟩
    simp only [pt, Act.put, Array.toList_setIfInBounds]
    exact (RelL.mono x h.t).set hv d
theorem Rel.isBool [Ltr] {v v' : Value} (h : Rel E v v') (ht : isTop v = false) : (match some v with | some (.bool b) => some b | _ => none) = (match some v' with | some (.bool b) => some b | _ => none) := by
  cases h with
  | ltr h hs => cases v' <;> first | (cases hs; done) | rfl
  | prd h hs => cases v' <;> first | (cases hs; done) | rfl
  | any => cases ht
  | _ => rfl
/-- what the operation's guard stands on is no riddle -/
def gdOk (ops : Array Oper) (o : Oper) (f : List Value) : Bool :=
  match o.guard with
  | none => true
  | some g => match (ops[g.1]?).bind (·.dst) with
    | none => true
    | some d => !isTop (slot f d)
theorem slot_some {v : Value} : ∀ {l : List Value} {d : Nat}, l[d]? = some v → slot l d = v
  | [], d, e => by simp at e
  | a :: l, 0, e => by simpa [slot] using e
  | a :: l, d + 1, e => by simpa [slot] using slot_some (l := l) (d := d) (by simpa using e)
theorem yielded_eq [Ltr] {ops : Array Oper} {l : List Value} {x : Array Value} (h : RelL E l x.toList) (j : Nat) (ht : (match (ops[j]?).bind (·.dst) with | none => true | some d => !isTop (slot l d)) = true) : yielded ops ⟨l⟩ j = yielded ops x j := by
  unfold yielded
  cases hd : (ops[j]?).bind (·.dst) with
  | none => rfl
  | some d =>
    show (match (⟨l⟩ : Array Value)[d]? with | some (.bool b) => some b | _ => none) = (match x[d]? with | some (.bool b) => some b | _ => none)
    cases hl : l[d]? with
    | none =>
      have hlen : l.length ≤ d := List.getElem?_eq_none_iff.1 hl
      have h1 : x[d]? = none := by
        rw [Array.getElem?_eq_none_iff]
        have := h.length
        simp at this
        omega
      have h2 : (⟨l⟩ : Array Value)[d]? = none := by simpa using hl
      rw [h1, h2]
    | some v =>
      obtain ⟨v', hv', r⟩ := h.get hl
      have h1 : x[d]? = some v' := by simpa using hv'
      have h2 : (⟨l⟩ : Array Value)[d]? = some v := by simpa using hl
      rw [h1, h2]
      rw [hd] at ht
      refine r.isBool ?_
      rw [← slot_some hl]
      simpa using ht
theorem wanted_eq [Ltr] {ops : Array Oper} {o : Oper} {l : List Value} {x : Array Value} (h : RelL E l x.toList) (ht : gdOk ops o l = true) : Region.wanted o (yielded ops x) = Region.wanted o (yielded ops ⟨l⟩) := by
  unfold Region.wanted
  unfold gdOk at ht
  cases hg : o.guard with
  | none => rfl
  | some g => rw [hg] at ht; dsimp only; rw [yielded_eq h _ ht]
abbrev Caller := FuncId → List Value → RW → Option (Value × RW)
/-- a round of a loop over a function -/
abbrev Rounder := Nat → List Value → RW → Option (Value × RW)
/-- a call of a loop's yield -/
def isYield (f : List Value) (o : Oper) : Option (Nat × List Value) :=
  match o.op with
  | .call c => match c.callee with
    | .value x => match ev f x with
      | .func (.yield l) ⟨[]⟩ ⟨[]⟩ => some (l, c.args.toList.map (ev f))
      | _ => none
    | _ => none
  | _ => none
/-- what a call over names has come to, it comes to over memory -/
def CallOk [Ltr] (P : Program) (G : Nat) (X : Kep) (base : Nat) (call : Caller) : Prop :=
  ∀ f args H v H1 E w args', Rep X base E H w → Gl G E → RelL E args args' → call f args H = some (v, H1) →
    Calls P f ⟨args'⟩ w fun e w' => ∃ v' F, e = .returned v' ∧ Ext E F ∧ Rep X base F H1 w' ∧ Kp X w w' ∧ Rel F v v'
/-- what a round over names has come to, yield comes to over memory -/
def RoundOk [Ltr] (P : Program) (G : Nat) (X : Kep) (base : Nat) (yld : Rounder) : Prop :=
  ∀ l args H v H1 E w b k args', Rep X base E H w → Gl G E → E l = some (b, k) → RelL E args args' → yld l args H = some (v, H1) →
    ∃ fn tmps assign body, (Instr.yield b ⟨args'⟩).run P w = .ok (.round b fn tmps assign body) w ∧
      ∀ n, RoundIn (Wd none) n P b fn tmps assign body w fun e w' => ∃ v' F, e = .returned v' ∧ Ext E F ∧ Rep X base F H1 w' ∧ Kp X w w' ∧ Rel F v v'
def Post [Ltr] (G : Nat) (X : Kep) (base : Nat) (E : Ren) (w : World) (x : Exit) (s1 : St) : Exit → Act → World → Prop :=
  fun e a' w' => e = x ∧ ∃ F, Ext E F ∧ FR G X base F s1 a' w' ∧ Kp X w w'
/-- what is known: an operation over letters; one over letters and memory; a loop -/
class Orc where
  f : Op → (Operand → Value) → Option Value
  m : Op → (Operand → Value) → RW → Option (Next × RW)
  c : Code → St → Option (Exit × St)
def evM [Orc] (P : Program) (base : Nat) (ρ : Operand → Value) (o : Oper) (H : RW) : Option (Next × RW) :=
  match evAll P base ρ o H with
  | some r => some r
  | none => bif memfree o.op then none else Orc.m o.op ρ H
class OrcOk [Ltr] (P : Program) (G : Nat) (X : Kep) (base : Nat) [Orc] : Prop where
  ok : ∀ (o : Oper) (ρ ρ' : Operand → Value) (E : Ren) (v : Value), (∀ x ∈ o.op.operands, Rel E (ρ x) (ρ' x)) → Orc.f o.op ρ = some v → ∀ w : World, (∀ b, X b → w.heap[b]? = X.ob b) → ∃ v', (execOp ρ' o).run P w = .ok (.value v') w ∧ Rel E v v' ∧ ∀ c, o.op ≠ .defer c
  mok : ∀ (o : Oper) (ρ ρ' : Operand → Value) (E : Ren) (H H1 : RW) (nx : Next) (w : World), (∀ x ∈ o.op.operands, Rel E (ρ x) (ρ' x)) → Rep X base E H w → Orc.m o.op ρ H = some (nx, H1) → Does P X base E w nx H1 (execOp ρ' o)
  mq : ∀ (o : Op) (ρ : Operand → Value) (H H1 : RW) (nx : Next), Orc.m o ρ H = some (nx, H1) → (∀ c, o ≠ .defer c) ∧ (quiet P o = true → H1 = H ∧ ∃ u, nx = .value u)
  cok : ∀ (ro : Option Nat) (n : Nat) (c : Code) (s : St) (x : Exit) (s1 : St) (E : Ren) (a : Act) (w : World), FR G X base E s a w → Orc.c c s = some (x, s1) → c.wpIn (Wd ro) n P (Post G X base E w x s1) a w
def evOps [Orc] (P : Program) (G base : Nat) (call : Caller) (yld : Rounder) (ops : Array Oper) : List Nat → St → Option St
  | [], s => some s
  | i :: rest, s => match ops[i]? with
    | none => none
    | some o => bif gdOk ops o s.f then bif Region.wanted o (yielded ops ⟨s.f⟩) then
        bif o.op.operands.toList.all (okC G) then match isYield s.f o with
          | some (l, args) => match yld l args s.H with
            | some (v, H1) => evOps P G base call yld ops rest ⟨pt o.dst v s.f, H1, s.ds⟩
            | none => none
          | none => match Orc.f o.op (ev s.f) with
            | some v => evOps P G base call yld ops rest ⟨pt o.dst v s.f, s.H, s.ds⟩
            | none => match evM P base (ev s.f) o s.H with
            | some (.value v, H1) => evOps P G base call yld ops rest ⟨pt o.dst v s.f, H1, s.ds⟩
            | some (.skip, H1) => evOps P G base call yld ops rest ⟨pt o.dst undef s.f, H1, s.ds⟩
            | some (.enter f args, H1) => match call f args.toList H1 with
              | some (v, H2) => evOps P G base call yld ops rest ⟨pt o.dst v s.f, H2, s.ds⟩
              | none => none
            | _ => none
        else none
      else evOps P G base call yld ops rest ⟨pt o.dst undef s.f, s.H, s.ds⟩
      else none
theorem Post.trans [Ltr] {F : Ren} {w w1 : World} {x : Exit} {s1 : St} (h : Ext E F) (b : Kp X w w1) {e : Exit} {a' : Act} {w' : World} (p : Post G X base F w1 x s1 e a' w') : Post G X base E w x s1 e a' w' := by
  obtain ⟨rfl, K, x1, R, b1⟩ := p
  exact ⟨rfl, K, h.trans x1, R, b.trans b1⟩
theorem wd_fn {ro : Option Nat} (f : FuncId) : (Wd ro).fn f := trivial
theorem wd_depth {ro : Option Nat} {n : Nat} : (Wd ro).depth.isSome = true → 1 ≤ n := fun h => by cases h
/-- a call, in whatever frame -/
theorem calls_wd {ro : Option Nat} {n : Nat} {f : FuncId} {args : Array Value} {w : World} {R : Ending → World → Prop} (h : Calls P f args w R) : CallsIn (Wd ro) n P f args w R := by
  have : CallsIn Fence.wide n P f args w R := callsIn_wide.2 h
  exact this
theorem wpOpsIn_mono {ro : Option Nat} {n : Nat} {ops : Array Oper} {Q Q' : Exit → Act → World → Prop} (hq : ∀ e a w, Q e a w → Q' e a w) : ∀ (l : List Nat) (a : Act) (w : World), wpOpsIn (Wd ro) n P ops Q l a w → wpOpsIn (Wd ro) n P ops Q' l a w
  | [], a, w, h => hq _ _ _ h
  | i :: rest, a, w, h => by
    unfold wpOpsIn at h ⊢
    cases ho : ops[i]? with
    | none => rw [ho] at h; exact wpOpsIn_mono hq rest a w h
    | some o =>
      rw [ho] at h
      dsimp only at h ⊢
      split
      · rename_i hw
        rw [if_pos hw] at h
        obtain ⟨h1, h⟩ := h
        refine ⟨h1, ?_⟩
        generalize (o.semAt (Wd ro).round a.eval).run P w = r at h ⊢
        unfold Oper.uponIn at h ⊢
        split at h
        · exact wpOpsIn_mono hq rest _ _ h
        · exact wpOpsIn_mono hq rest _ _ h
        · exact wpOpsIn_mono hq rest _ _ h
        · refine ⟨h.1, CallsIn.mono h.2 fun e w' p => ?_⟩
          cases e with
          | returned v => exact wpOpsIn_mono hq rest _ _ p
          | panicked c => exact hq _ _ _ p
          | outgrown => obtain ⟨a0, w0, p⟩ := p; exact ⟨a0, w0, hq _ _ _ p⟩
        · exact ⟨h.1, RowsIn.mono h.2 fun v w' p => wpOpsIn_mono hq rest _ _ p⟩
        · refine ⟨h.1, RoundIn.mono h.2 fun e w' p => ?_⟩
          cases e with
          | returned v => exact wpOpsIn_mono hq rest _ _ p
          | panicked c => exact hq _ _ _ p
          | outgrown => obtain ⟨a0, w0, p⟩ := p; exact ⟨a0, w0, hq _ _ _ p⟩
        · exact hq _ _ _ h
        · exact h.elim
      · rename_i hw
        rw [if_neg hw] at h
        exact ⟨h.1, wpOpsIn_mono hq rest _ _ h.2⟩
theorem no_defer {ρ : Operand → Value} {o : Oper} {H : RW} {r : Next × RW} (e : evAll P base ρ o H = some r) : ∀ c, o.op ≠ .defer c := by
  intro c hc
  unfold evAll evOp at e
  simp only [hc] at e
  cases e
theorem evM_nodefer [Ltr] [Orc] [OrcOk P G X base] {ρ : Operand → Value} {o : Oper} {H : RW} {r : Next × RW} (e : evM P base ρ o H = some r) : ∀ c, o.op ≠ .defer c := by
  unfold evM at e
  cases h : evAll P base ρ o H with
  | some q => exact no_defer h
  | none =>
    rw [h] at e
    dsimp only at e
    cases hm : memfree o.op with
    | true => rw [hm] at e; cases e
    | false =>
      rw [hm] at e
      exact (OrcOk.mq (P := P) (G := G) (X := X) (base := base) o.op ρ H r.2 r.1 e).1
theorem evM_sound [Ltr] [Orc] [OrcOk P G X base] {ρ ρ' : Operand → Value} {o : Oper} {H H1 : RW} {nx : Next} {w : World} (hρ : ∀ x ∈ o.op.operands, Rel E (ρ x) (ρ' x)) (hR : Rep X base E H w)
    (e : evM P base ρ o H = some (nx, H1)) : Does P X base E w nx H1 (execOp ρ' o) := by
  unfold evM at e
  cases h : evAll P base ρ o H with
  | some q =>
    rw [h] at e
    obtain rfl := Option.some.inj e
    exact evAll_sound hρ hR h
  | none =>
    rw [h] at e
    dsimp only at e
    cases hm : memfree o.op with
    | true => rw [hm] at e; cases e
    | false =>
      rw [hm] at e
      exact OrcOk.mok (P := P) (G := G) (X := X) (base := base) o ρ ρ' E H H1 nx w hρ hR e
theorem evM_quiet [Ltr] [Orc] [OrcOk P G X base] {ρ : Operand → Value} {o : Oper} {H H1 : RW} {nx : Next} (hq : quiet P o.op = true) (e : evM P base ρ o H = some (nx, H1)) : H1 = H ∧ ∃ u, nx = .value u := by
  unfold evM at e
  cases h : evAll P base ρ o H with
  | some q =>
    rw [h] at e
    obtain rfl := Option.some.inj e
    exact quiet_H hq h
  | none =>
    rw [h] at e
    dsimp only at e
    cases hm : memfree o.op with
    | true => rw [hm] at e; cases e
    | false =>
      rw [hm] at e
      exact (OrcOk.mq (P := P) (G := G) (X := X) (base := base) o.op ρ H H1 nx e).2 hq
theorem evM_free [Orc] {ρ : Operand → Value} {o : Oper} {H : RW} {r : Next × RW} (hm : memfree o.op = true) (e : evM P base ρ o H = some r) : evAll P base ρ o H = some r := by
  unfold evM at e
  cases h : evAll P base ρ o H with
  | some q => rw [h] at e; exact e
  | none => rw [h, hm] at e; cases e
theorem evM_of [Orc] {ρ : Operand → Value} {o : Oper} {H : RW} {r : Next × RW} (e : evAll P base ρ o H = some r) : evM P base ρ o H = some r := by
  unfold evM
  rw [e]
/-- an operation that has been reckoned, in whatever frame -/
theorem upon_of [Ltr] [Orc] {ro : Option Nat} {n : Nat} {o : Oper} {a : Act} {w : World} {next : Act → World → Prop} {Q : Exit → Act → World → Prop} (hd : ∀ c, o.op ≠ .defer c) (h : o.uponIn (Wd ro) n P a next Q ((execOp a.eval o).run P w)) : o.wpIn (Wd ro) n P a w next Q :=
  ⟨fun f _ => wd_fn f, by rw [Oper.semAt_eq _ _ _ hd]; exact h⟩
theorem yield_run [Ltr] {s : St} {a : Act} {w : World} (h : FR G X base E s a w) {o : Oper} {l : Nat} {args : List Value} (hk : o.op.operands.toList.all (okC G) = true) (hy : isYield s.f o = some (l, args)) :
    ∃ b k args', E l = some (b, k) ∧ RelL E args args' ∧ (∀ c, o.op ≠ .defer c) ∧ ∀ r, (Instr.yield b ⟨args'⟩).run P w = r → (execOp a.eval o).run P w = r := by
  unfold isYield at hy
  split at hy
  · rename_i c ho
    split at hy
    · rename_i x hc
      split at hy
      · rename_i l' hx
        obtain ⟨rfl, rfl⟩ := Prod.mk.inj (Option.some.inj hy)
        have hop : o.op.operands = #[x] ++ c.args := by rw [ho]; simp [Op.operands, Call.operands, hc]
        have hrel : ∀ y, y ∈ #[x] ++ c.args → Rel E (ev s.f y) (a.eval y) := fun y hy => ev_rel h (List.all_eq_true.1 hk y (by rw [hop]; simpa using hy))
        have hx' := hrel x (by simp)
        rw [hx] at hx'
        generalize hz : a.eval x = z at hx'
        cases hx' with
        | same hf => cases hf
        | @yld _ b k hE =>
          refine ⟨b, k, c.args.toList.map a.eval, hE, RelL.of fun y hy => hrel y (by simp at hy ⊢; exact .inr hy), fun c' h' => (by rw [ho] at h'; cases h'), fun r hr => ?_⟩
          have e1 : c.args.map a.eval = ⟨c.args.toList.map a.eval⟩ := by apply Array.ext'; simp
          simp only [execOp, ho, resolve, hc, hz, e1, Deferred.ofValue, invoke, pure_bind]
          rw [← hr]
          congr 2
          apply Array.ext'
          simp
      · cases hy
    · cases hy
  · cases hy
theorem evOps_sound [Ltr] [Orc] [OrcOk P G X base] {ro : Option Nat} {n : Nat} {call : Caller} {yld : Rounder} (hc : CallOk P G X base call) (hy : RoundOk P G X base yld) {ops : Array Oper} : ∀ (l : List Nat) {s s1 : St} {E : Ren} {a : Act} {w : World}, FR G X base E s a w → evOps P G base call yld ops l s = some s1 →
    wpOpsIn (Wd ro) n P ops (Post G X base E w .normal s1) l a w
  | [], s, s1, E, a, w, h, e => by
    obtain rfl := Option.some.inj e
    exact ⟨rfl, E, Ext.refl E, h, Kp.refl _ _⟩
  | i :: rest, s, s1, E, a, w, h, e => by
    unfold evOps at e
    unfold wpOpsIn
    cases ho : ops[i]? with
    | none => rw [ho] at e; cases e
    | some o =>
      rw [ho] at e
      dsimp only at e ⊢
      obtain ⟨hgd, e⟩ := cond_some e
      rw [wanted_eq h.t hgd]
      cases hw : Region.wanted o (yielded ops ⟨s.f⟩) with
      | false =>
        rw [hw] at e
        simp only [Bool.false_eq_true, if_false]
        exact ⟨fun f _ => wd_fn f, evOps_sound hc hy rest (h.put (Ext.refl E) h.r (.same rfl) o.dst) e⟩
      | true =>
        rw [hw] at e
        simp only [if_true]
        dsimp only [cond_true] at e
        obtain ⟨hk, e⟩ := cond_some e
        cases hyl : isYield s.f o with
        | some la =>
          obtain ⟨l, args⟩ := la
          rw [hyl] at e
          dsimp only at e
          obtain ⟨b, k, args', hE, ra, hnd, hrun⟩ := yield_run (P := P) h hk hyl
          cases hyr : yld l args s.H with
          | none => rw [hyr] at e; cases e
          | some p =>
            obtain ⟨v, H1⟩ := p
            rw [hyr] at e
            obtain ⟨fn, tmps, assign, body, hr, hround⟩ := hy l args s.H v H1 E w b k args' h.r h.g hE ra hyr
            refine upon_of hnd ?_
            rw [hrun _ hr]
            refine ⟨wd_depth, RoundIn.mono (hround _) fun en w2 p => ?_⟩
            obtain ⟨v', F, rfl, x1, R1, b1, rv⟩ := p
            exact wpOpsIn_mono (fun _ _ _ p => p.trans x1 b1) _ _ _ (evOps_sound hc hy rest (h.put x1 R1 rv o.dst) e)
        | none =>
          rw [hyl] at e
          dsimp only at e
          have hρ : ∀ x ∈ o.op.operands, Rel E (ev s.f x) (a.eval x) := fun x hx => ev_rel h (List.all_eq_true.1 hk x (by simpa using hx))
          cases hoc : Orc.f o.op (ev s.f) with
          | some v =>
            rw [hoc] at e
            obtain ⟨v', hr, rv, hnd⟩ := OrcOk.ok (P := P) (G := G) (X := X) (base := base) o (ev s.f) a.eval E v hρ hoc w h.r.fx
            refine upon_of hnd ?_
            rw [hr]
            exact evOps_sound hc hy rest (h.put (Ext.refl E) h.r rv o.dst) e
          | none =>
          rw [hoc] at e
          dsimp only at e
          cases hv : evM P base (ev s.f) o s.H with
          | none => rw [hv] at e; cases e
          | some p =>
            obtain ⟨nx, H1⟩ := p
            rw [hv] at e
            obtain ⟨F, nx', w', hr, x1, R1, b1, rn⟩ := evM_sound (G := G) (X := X) (E := E) (ρ' := a.eval) (w := w) (fun x hx => ev_rel h (List.all_eq_true.1 hk x (by simpa using hx))) h.r hv
            refine upon_of (evM_nodefer (G := G) (X := X) hv) ?_
            rw [hr]
            cases nx with
            | value v =>
              cases nx' with
              | value v' => exact wpOpsIn_mono (fun _ _ _ p => p.trans x1 b1) _ _ _ (evOps_sound hc hy rest (h.put x1 R1 rn o.dst) e)
              | _ => exact rn.elim
            | skip =>
              cases nx' with
              | skip => exact wpOpsIn_mono (fun _ _ _ p => p.trans x1 b1) _ _ _ (evOps_sound hc hy rest (h.put x1 R1 (.same rfl) o.dst) e)
              | _ => exact rn.elim
            | enter f args =>
              cases nx' with
              | enter f' args' =>
                obtain ⟨rfl, ra⟩ := rn
                dsimp only at e
                cases hcl : call f args.toList H1 with
                | none => rw [hcl] at e; cases e
                | some q =>
                  obtain ⟨v, H2⟩ := q
                  rw [hcl] at e
                  refine ⟨wd_depth, CallsIn.mono (calls_wd (hc f args.toList H1 v H2 F w' args'.toList R1 (h.g.mono x1) ra hcl)) fun en w2 p => ?_⟩
                  obtain ⟨v', K, rfl, x2, R2, b2, rv⟩ := p
                  exact wpOpsIn_mono (fun _ _ _ p => p.trans (x1.trans x2) (b1.trans b2)) _ _ _ (evOps_sound hc hy rest (h.put (x1.trans x2) R2 rv o.dst) e)
              | _ => exact rn.elim
            | _ => cases e
/-- rounds of a loop -/
theorem wp_loop_ind {F : Fence} {n : Nat} {c : Code} {Q : Exit → Act → World → Prop} (S : Nat → Act → World → Prop) (h0 : ∀ a w, ¬ S 0 a w) (round : ∀ m a w, S (m + 1) a w → c.wpIn F n P (Exit.then (S m) Q) a w) {m : Nat} {a : Act} {w : World} (h : S m a w) : (Code.loop c).wpIn F n P Q a w := by
  intro b k cs hro hb hr
  have key : ∀ m a w, S m a w → ∃ e a' w', Q e a' w' ∧ ArrivesIn (Machine.fenced P F) P (lone (b.atR a (.code c :: .inLoop c :: k)) cs w) b k cs e a' w' := by
    intro m
    induction m with
    | zero => intro a w h; exact absurd h (h0 a w)
    | succ m ih =>
      intro a w h
      obtain ⟨e, a₁, w₁, hq, harr⟩ := round m a w h b (.inLoop c :: k) cs hro hb hr
      cases e with
      | normal =>
        obtain ⟨e₂, a₂, w₂, hq₂, harr₂⟩ := ih a₁ w₁ hq
        exact ⟨e₂, a₂, w₂, hq₂, .of_steps (StepsIn.trans harr (.one (fenced_calm hb hr rfl) stepR_inLoop)) harr₂⟩
      | exit id => exact ⟨_, a₁, w₁, hq, .pass (x := .inLoop c) rfl (fun _ _ => .inl (by simp)) harr⟩
      | goto l => exact ⟨_, a₁, w₁, hq, .pass (x := .inLoop c) rfl (fun _ _ => .inl (by simp)) harr⟩
      | ret => exact ⟨_, a₁, w₁, hq, .pass (x := .inLoop c) rfl (fun _ _ => .inl (by simp)) harr⟩
      | panic ch => exact ⟨_, a₁, w₁, hq, .pass (x := .inLoop c) rfl (fun _ _ => .inl (by simp)) harr⟩
      | outgrown => exact ⟨_, a₁, w₁, hq, .pass (x := .inLoop c) rfl (fun _ _ => .inl (by simp)) harr⟩
  obtain ⟨e, a', w', hq, harr⟩ := key m a w h
  exact ⟨e, a', w', hq, .of_steps (.one (fenced_calm hb hr rfl) stepR_loop) harr⟩
end
end Go.Proofs.YtkhmbphcjacgnaaGreatDoor
