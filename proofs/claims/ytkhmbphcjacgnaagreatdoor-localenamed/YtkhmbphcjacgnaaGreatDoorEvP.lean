/-
  A run by reckoning: operations that read no memory come to the same, whatever memory.
-/
import Derived.Test.YtkhmbphcjacgnaaGreatDoorEvE
namespace Go.Proofs.YtkhmbphcjacgnaaGreatDoor
open Go Go.RowKit
section
variable {P : Program} {base : Nat} {α β γ : Type}
theorem Mless.program : Mless P base Go.program := fun H r H1 e => by
  obtain ⟨rfl, rfl⟩ := Prod.mk.inj (Option.some.inj e)
  exact ⟨rfl, rfl⟩
theorem Mless.typeInfo [Ltr] (t : TypeId) : Mless P base (Go.typeInfo t) := Mless.bind Mless.program fun p => by
  cases p.info? t with
  | none => exact Mless.never fun _ => rfl
  | some i => exact Mless.pure i
theorem Mless.underlying [Ltr] (t : TypeId) : Mless P base (Go.underlying t) := Mless.bind Mless.program fun p => by
  cases p.underlying t with
  | none => exact Mless.never fun _ => rfl
  | some i => exact Mless.pure i
theorem Mless.sizeOf [Ltr] (t : TypeId) : Mless P base (Go.sizeOf t) := Mless.bind (Mless.typeInfo t) fun _ => Mless.pure _
theorem Mless.isAgg [Ltr] (t : TypeId) : Mless P base (Go.isAgg t) := Mless.bind (Mless.underlying t) fun d => by cases d <;> exact Mless.pure _
theorem Mless.sureAddr [Ltr] (v : Value) : Mless P base (Instr.sureAddr v) := by
  cases v with
  | pointer a => cases a with
    | none => exact Mless.never fun _ => rfl
    | some a => exact Mless.pure a
  | _ => exact Mless.never fun _ => rfl
theorem Mless.part [Ltr] (t : TypeId) (c : Array Value) (o : Nat) : Mless P base (Go.part t c o) := Mless.bind (Mless.isAgg t) fun b => by
  cases b with
  | true => exact Mless.bind (Mless.sizeOf t) fun n => Mless.pure _
  | false =>
    show Mless P base (match c[o]? with | some v => Pure.pure v | none => Go.stuck _)
    cases c[o]? with
    | none => exact Mless.never fun _ => rfl
    | some v => exact Mless.pure v
theorem Mless.field [Ltr] (t : TypeId) (v : Value) (f : Nat) : Mless P base (Instr.field t v f) := Mless.bind (Mless.underlying t) fun d => by
  cases d with
  | struct fs =>
    dsimp only
    cases fs[f]? with
    | none => exact Mless.never fun _ => rfl
    | some x => exact Mless.bind (by cases v <;> first | exact Mless.pure _ | exact Mless.never fun _ => rfl) fun _ => Mless.part _ _ _
  | _ => exact Mless.never fun _ => rfl
theorem Mless.extract [Ltr] (v : Value) (i : Nat) : Mless P base (Instr.extract v i) := by
  cases v with
  | tuple x =>
    unfold Instr.extract
    dsimp only
    cases x[i]? with
    | none => exact Mless.never fun _ => rfl
    | some v => exact Mless.pure v
  | _ => exact Mless.never fun _ => rfl
theorem Mless.orPanic [Ltr] {c : Prop} [Decidable c] {u : Unsupported} {k : IntKind} {x y : Int} {code : BoundsCode} : Mless P base (if c then Go.unsupported (α := α) u else boundsPanic k x y code) := by
  split
  · exact Mless.never fun _ => rfl
  · exact Mless.never sv_boundsPanic
theorem Mless.indexAt [Ltr] (t : TypeId) (x i : Value) : Mless P base (Instr.indexAt t x i) := Mless.bind (Mless.asIntOf i) fun y => by
  obtain ⟨k, n⟩ := y
  refine Mless.bind (Mless.underlying t) fun d => ?_
  have tail : ∀ (b : Option Addr) (len : Nat) (el : TypeId) (s : Addr → Sem Value) (r : Sem Value), (∀ a, Mless P base (s a)) → Mless P base r → Mless P base (match b with | some a => s a | none => r) := by
    intro b len el s r h1 h2
    cases b with
    | none => exact h2
    | some a => exact h1 a
  have mid : ∀ {a : Addr} {len : Nat} {el : TypeId} {s : Sem Value}, Mless P base s → Mless P base (if 0 ≤ n ∧ n < (len : Int) then (Go.sizeOf el >>= fun z => Pure.pure (Value.pointer (some (a.add (n.toNat * z))))) else s) := by
    intro a len el s hs
    split
    · exact Mless.bind (Mless.sizeOf el) fun _ => Mless.pure _
    · exact hs
  cases d with
  | array len el => exact Mless.bind (Mless.sureAddr x) fun a => Mless.bind (Mless.pure _) fun q => by obtain ⟨b, l, el'⟩ := q; exact Mless.bind (Mless.underlying t) fun d => tail b l el' _ _ (fun a => mid Mless.orPanic) (Mless.never sv_boundsPanic)
  | slice el =>
    cases x with
    | slice b len c => exact Mless.bind (Mless.pure _) fun q => by obtain ⟨b, l, el'⟩ := q; exact Mless.bind (Mless.underlying t) fun d => tail b l el' _ _ (fun a => mid Mless.orPanic) (Mless.never sv_boundsPanic)
    | _ => exact Mless.never fun _ => rfl
  | _ => exact Mless.never fun _ => rfl
theorem Mless.index [Ltr] (t : TypeId) (x i : Value) (hf : flat x = false) : Mless P base (Instr.index t x i) := Mless.bind (Mless.asIntOf i) fun y => by
  obtain ⟨k, n⟩ := y
  refine Mless.bind (Mless.underlying t) fun d => ?_
  cases d with
  | array len el =>
    cases x with
    | agg cs =>
      dsimp only
      split
      · exact Mless.bind (Mless.sizeOf el) fun _ => Mless.part _ _ _
      · exact Mless.never sv_boundsPanic
    | _ => exact Mless.never fun _ => rfl
  | string =>
    cases x with
    | string s => cases hf
    | _ => exact Mless.never fun _ => rfl
  | _ => cases x <;> exact Mless.never fun _ => rfl
theorem Mless.at [Ltr] {s : Sem α} (h : Mless P base s) {H H1 : RW} {r : α} (e : sv P base s H = some (r, H1)) (K : RW) : sv P base s K = some (r, K) := svp_sv K (h H r H1 e).1
/-- the kinds that read no memory -/
def memfree : Op → Bool
  | .move _ | .assign _ | .pick .. | .extract .. | .indexAddr .. | .binOp .. | .nilCheck _ | .makeFunc .. => true
  | _ => false
theorem flatc_at {ρ : Operand → Value} {o : Oper} {H H1 : RW} {nx : Next} (e : flatc P ρ o H = some (nx, H1)) (K : RW) : flatc P ρ o K = some (nx, K) := by
  unfold flatc at e ⊢
  cases hc : (o.op.operands.toList.all fun x => fl2 (ρ x)) with
  | false => rw [hc] at e; cases e
  | true =>
    rw [hc] at e
    dsimp only [cond_true] at e ⊢
    split at e
    · rename_i v _
      cases hf : flat v with
      | false => rw [hf] at e; cases e
      | true => rw [hf] at e; obtain ⟨rfl, rfl⟩ := Prod.mk.inj (Option.some.inj e); rfl
    · cases e
theorem memfree_at [Ltr] {ρ : Operand → Value} {o : Oper} {H H1 : RW} {nx : Next} (hq : memfree o.op = true) (e : evAll P base ρ o H = some (nx, H1)) (K : RW) : evAll P base ρ o K = some (nx, K) := by
  have out : ∀ {L : RW}, evOp P base ρ o L = some (nx, L) → evAll P base ρ o L = some (nx, L) := fun h => by unfold evAll; rw [h]
  have inn : evOp P base ρ o H = some (nx, H1) := by
    unfold evAll at e
    cases h0 : evOp P base ρ o H with
    | some r => rw [h0] at e; exact e
    | none =>
      rw [h0] at e
      dsimp only at e
      cases ho : o.op <;> simp only [ho] at e hq <;> first | (cases e; done) | (cases hq; done)
  refine out ?_
  unfold evOp at inn ⊢
  cases ho : o.op with
  | move x => simp only [ho] at inn ⊢; obtain ⟨rfl, rfl⟩ := Prod.mk.inj (Option.some.inj inn); rfl
  | assign x => simp only [ho] at inn ⊢; obtain ⟨rfl, rfl⟩ := Prod.mk.inj (Option.some.inj inn); rfl
  | pick c a b =>
    simp only [ho] at inn ⊢
    split at inn
    · obtain ⟨rfl, rfl⟩ := Prod.mk.inj (Option.some.inj inn); rfl
    · cases inn
  | extract x i =>
    simp only [ho, execOp] at inn ⊢
    exact Mless.at (Mless.bind (Mless.extract _ _) fun _ => Mless.pure _) inn K
  | indexAddr t x y =>
    simp only [ho, execOp] at inn ⊢
    exact Mless.at (Mless.bind (Mless.indexAt _ _ _) fun _ => Mless.pure _) inn K
  | binOp op t x y t' =>
    simp only [ho] at inn ⊢
    cases hf : (fl2 (ρ x) && fl2 (ρ y)) with
    | true => rw [hf] at inn; exact flatc_at inn K
    | false =>
      rw [hf] at inn
      dsimp only [cond_false] at inn ⊢
      split at inn
      · obtain ⟨rfl, rfl⟩ := Prod.mk.inj (Option.some.inj inn); rfl
      · cases inn
  | nilCheck x =>
    simp only [ho] at inn ⊢
    split at inn <;> first | (obtain ⟨rfl, rfl⟩ := Prod.mk.inj (Option.some.inj inn); rfl) | cases inn
  | makeFunc g a b =>
    simp only [ho] at inn ⊢
    split at inn <;> first | (rename_i h; cases h; done) | (obtain ⟨rfl, rfl⟩ := Prod.mk.inj (Option.some.inj inn); rfl) | cases inn
  | _ => rw [ho] at hq; cases hq
end
end Go.Proofs.YtkhmbphcjacgnaaGreatDoor
