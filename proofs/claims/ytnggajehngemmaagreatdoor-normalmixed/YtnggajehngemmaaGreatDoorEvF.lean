/-
  A run by reckoning: operations that leave memory as it is.
-/
import Derived.Test.YtnggajehngemmaaGreatDoorEvD
import Derived.OrdersIn
import Derived.RangeFuncLeaves
import Derived.Orders
namespace Go.Proofs.YtnggajehngemmaaGreatDoor
open Go Go.RowKit
section
variable {P : Program} {base : Nat} {α β γ : Type}
theorem cond_some {b : Bool} {x : Option α} {y : α} (h : (bif b then x else none) = some y) : b = true ∧ x = some y := by
  cases b with
  | true => exact ⟨rfl, h⟩
  | false => cases h
def RO (P : Program) (base : Nat) (s : Sem α) : Prop := ∀ H r H1, sv P base s H = some (r, H1) → H1 = H
theorem RO.of {s : Sem α} (h : Mless P base s) : RO P base s := fun H r H1 e => (h H r H1 e).2
theorem RO.pure [Ltr] (a : α) : RO P base (Pure.pure a : Sem α) := RO.of (Mless.pure a)
theorem RO.never [Ltr] {s : Sem α} (h : ∀ H, sv P base s H = none) : RO P base s := RO.of (Mless.never h)
theorem RO.bind [Ltr] {s : Sem α} {f : α → Sem γ} (h : RO P base s) (k : ∀ a, RO P base (f a)) : RO P base (s >>= f) := by
  intro H r H1 e
  have e2 : sv P base (s.bind f) H = some (r, H1) := e
  rw [sv_bind] at e2
  cases hs : sv P base s H with
  | none => rw [hs] at e2; cases e2
  | some x =>
    obtain ⟨a, H2⟩ := x
    rw [hs] at e2
    rw [k a H2 r H1 e2, h H a H2 hs]
theorem RO.load (a : Addr) : RO P base (Go.load a) := by
  intro H r H1 e
  simp only [Go.load, sv] at e
  cases hc : H.cell a with
  | none => rw [hc] at e; cases e
  | some v => rw [hc] at e; exact (Prod.mk.inj (Option.some.inj e)).2.symm
theorem RO.program : RO P base Go.program := fun _ _ _ e => (Prod.mk.inj (Option.some.inj e)).2.symm
theorem RO.typeInfo [Ltr] (t : TypeId) : RO P base (Go.typeInfo t) := RO.bind RO.program fun p => by
  cases p.info? t with
  | none => exact RO.never fun _ => rfl
  | some i => exact RO.pure i
theorem RO.underlying [Ltr] (t : TypeId) : RO P base (Go.underlying t) := RO.bind RO.program fun p => by
  cases p.underlying t with
  | none => exact RO.never fun _ => rfl
  | some i => exact RO.pure i
theorem RO.sizeOf [Ltr] (t : TypeId) : RO P base (Go.sizeOf t) := RO.bind (RO.typeInfo t) fun _ => RO.pure _
theorem RO.isAgg [Ltr] (t : TypeId) : RO P base (Go.isAgg t) := RO.bind (RO.underlying t) fun d => by cases d <;> exact RO.pure _
theorem RO.loadCellsFrom [Ltr] (a : Addr) : ∀ (n i : Nat) (x : Array Value), RO P base (Go.loadCellsFrom a i n x)
  | 0, _, _ => RO.pure _
  | n + 1, i, x => RO.bind (RO.load _) fun v => RO.loadCellsFrom a n (i + 1) (x.push v)
theorem RO.loadVar [Ltr] (t : TypeId) (a : Addr) : RO P base (Go.loadVar t a) := RO.bind (RO.isAgg t) fun b => by
  cases b with
  | true => exact RO.bind (RO.sizeOf t) fun n => RO.bind (RO.loadCellsFrom a n 0 #[]) fun _ => RO.pure _
  | false => exact RO.load a
theorem RO.sureAddr [Ltr] (v : Value) : RO P base (Instr.sureAddr v) := by
  cases v with
  | pointer a => cases a with
    | none => exact RO.never fun _ => rfl
    | some a => exact RO.pure a
  | _ => exact RO.never fun _ => rfl
theorem RO.part [Ltr] (t : TypeId) (c : Array Value) (o : Nat) : RO P base (Go.part t c o) := RO.bind (RO.isAgg t) fun b => by
  cases b with
  | true => exact RO.bind (RO.sizeOf t) fun n => RO.pure _
  | false =>
    show RO P base (match c[o]? with | some v => Pure.pure v | none => Go.stuck _)
    cases c[o]? with
    | none => exact RO.never fun _ => rfl
    | some v => exact RO.pure v
theorem RO.field [Ltr] (t : TypeId) (v : Value) (f : Nat) : RO P base (Instr.field t v f) := RO.bind (RO.underlying t) fun d => by
  cases d with
  | struct fs =>
    dsimp only
    cases fs[f]? with
    | none => exact RO.never fun _ => rfl
    | some x => exact RO.bind (by cases v <;> first | exact RO.pure _ | exact RO.never fun _ => rfl) fun _ => RO.part _ _ _
  | _ => exact RO.never fun _ => rfl
theorem RO.extract [Ltr] (v : Value) (i : Nat) : RO P base (Instr.extract v i) := by
  cases v with
  | tuple x =>
    unfold Instr.extract
    dsimp only
    cases x[i]? with
    | none => exact RO.never fun _ => rfl
    | some v => exact RO.pure v
  | _ => exact RO.never fun _ => rfl
theorem RO.orPanic [Ltr] {c : Prop} [Decidable c] {u : Unsupported} {k : IntKind} {x y : Int} {code : BoundsCode} : RO P base (if c then Go.unsupported (α := α) u else boundsPanic k x y code) := by
  split
  · exact RO.never fun _ => rfl
  · exact RO.never sv_boundsPanic
theorem RO.indexAt [Ltr] (t : TypeId) (x i : Value) : RO P base (Instr.indexAt t x i) := RO.bind (RO.of (Mless.asIntOf i)) fun y => by
  obtain ⟨k, n⟩ := y
  refine RO.bind (RO.underlying t) fun d => ?_
  have tail : ∀ (b : Option Addr) (len : Nat) (el : TypeId) (s : Addr → Sem Value) (r : Sem Value), (∀ a, RO P base (s a)) → RO P base r → RO P base (match b with | some a => s a | none => r) := by
    intro b len el s r h1 h2
    cases b with
    | none => exact h2
    | some a => exact h1 a
  have mid : ∀ {a : Addr} {len : Nat} {el : TypeId} {s : Sem Value}, RO P base s → RO P base (if 0 ≤ n ∧ n < (len : Int) then (Go.sizeOf el >>= fun z => Pure.pure (Value.pointer (some (a.add (n.toNat * z))))) else s) := by
    intro a len el s hs
    split
    · exact RO.bind (RO.sizeOf el) fun _ => RO.pure _
    · exact hs
  cases d with
  | array len el => exact RO.bind (RO.sureAddr x) fun a => RO.bind (RO.pure _) fun q => by obtain ⟨b, l, el'⟩ := q; exact RO.bind (RO.underlying t) fun d => tail b l el' _ _ (fun a => mid RO.orPanic) (RO.never sv_boundsPanic)
  | slice el =>
    cases x with
    | slice b len c => exact RO.bind (RO.pure _) fun q => by obtain ⟨b, l, el'⟩ := q; exact RO.bind (RO.underlying t) fun d => tail b l el' _ _ (fun a => mid RO.orPanic) (RO.never sv_boundsPanic)
    | _ => exact RO.never fun _ => rfl
  | _ => exact RO.never fun _ => rfl
theorem RO.index [Ltr] (t : TypeId) (x i : Value) (hf : flat x = false) : RO P base (Instr.index t x i) := RO.bind (RO.of (Mless.asIntOf i)) fun y => by
  obtain ⟨k, n⟩ := y
  refine RO.bind (RO.underlying t) fun d => ?_
  cases d with
  | array len el =>
    cases x with
    | agg cs =>
      dsimp only
      split
      · exact RO.bind (RO.sizeOf el) fun _ => RO.part _ _ _
      · exact RO.never sv_boundsPanic
    | _ => exact RO.never fun _ => rfl
  | string =>
    cases x with
    | string s => cases hf
    | _ => exact RO.never fun _ => rfl
  | _ => cases x <;> exact RO.never fun _ => rfl
theorem RO.fieldAt [Ltr] {t : TypeId} {v : Value} {f : Nat} (hk : fokAt P t f = true) : RO P base (Instr.fieldAt t v f) := by
  unfold fokAt at hk
  cases hu : svp P (Go.underlying t) with
  | none => rw [hu] at hk; cases hk
  | some d =>
    intro H r H1 e
    have e2 : sv P base (Sem.bind (Go.underlying t) _) H = some (r, H1) := e
    rw [sv_bind, svp_sv H hu] at e2
    rw [hu] at hk
    cases d with
    | struct fs =>
      dsimp only at hk
      cases hf : fs[f]? with
      | none => rw [hf] at hk; cases hk
      | some fd =>
        rw [hf] at hk
        simp only [Option.bind_some, hf] at e2
        refine (RO.bind (P := P) (base := base) (RO.sureAddr v) (fun a => ?_)) H r H1 e2
        refine RO.bind ?_ fun _ => RO.pure _
        cases hs : svp P (Go.sizeOf fd.type) with
        | none => simp [hs] at hk
        | some n =>
          have hn : n ≠ 0 := by simpa [hs] using hk
          intro H r H1 e
          have e2 : sv P base (Sem.bind (Go.sizeOf fd.type) _) H = some (r, H1) := e
          rw [sv_bind, svp_sv H hs] at e2
          simp only [Option.bind_some, hn, if_false] at e2
          exact (RO.pure _) H r H1 e2
    | _ => cases hk
theorem RO.cut [Ltr] {a : Addr} {el : TypeId} {b : Bool} {n c : Nat} {lo hi mx : Option Value} :
    RO P base (do let x ← Instr.sliceBounds b n c lo hi mx; match x with | (l, h, m) => do let size ← Go.sizeOf el; Pure.pure (Value.slice (some (if m = l then a else a.add (l * size))) (h - l) (m - l))) :=
  RO.bind (RO.of (Mless.sliceBounds b n c lo hi mx)) fun x => by obtain ⟨l, h, m⟩ := x; exact RO.bind (RO.sizeOf el) fun _ => RO.pure _
theorem RO.slice [Ltr] (t : TypeId) (v : Value) (lo hi mx : Option Value) (hf : flat v = false) : RO P base (Instr.slice t v lo hi mx) := RO.bind (RO.underlying t) fun d => by
  cases d with
  | slice el =>
    cases v with
    | slice a n c => exact RO.bind (RO.of (Mless.sliceBounds true n c lo hi mx)) fun x => by obtain ⟨l, h, m⟩ := x; exact RO.bind (RO.sizeOf el) fun _ => RO.pure _
    | _ => exact RO.never fun _ => rfl
  | pointer arr =>
    refine RO.bind ?_ fun a => RO.bind (RO.underlying arr) fun d => by
      cases d with
      | array n el => exact RO.cut
      | _ => exact RO.never fun _ => rfl
    cases v with
    | pointer a => cases a with
      | none => exact RO.never fun _ => rfl
      | some a => exact RO.pure a
    | _ => exact RO.never fun _ => rfl
  | string =>
    cases v with
    | string s => cases hf
    | _ => exact RO.never fun _ => rfl
  | _ => exact RO.never fun _ => rfl
theorem RO.sliceAt [Ltr] (t : TypeId) (v : Value) (lo hi mx : Option Value) (hf : flat v = false) : RO P base (Instr.sliceAt t v lo hi mx) := RO.bind (RO.underlying t) fun d => by
  cases d with
  | array n el => exact RO.bind (RO.sureAddr v) fun a => RO.cut
  | _ => exact RO.slice t v lo hi mx hf
/-- the kinds that leave memory as it is -/
def quiet (P : Program) : Op → Bool
  | .move _ | .assign _ | .pick .. | .load .. | .field .. | .extract .. | .indexAddr .. | .fieldAddr .. | .build .. | .nilCheck _ | .makeFunc .. | .makeInterface .. | .slice .. | .binOp .. | .unOp .. | .index .. | .lookup .. => true
  | .convert _ d _ => match svp P (Go.underlying d) with
    | some (.slice _) => false
    | _ => true
  | .call c => match c.callee with
    | .builtin .len | .builtin .min | .builtin .max => true
    | _ => false
  | _ => false
theorem flatc_H {ρ : Operand → Value} {o : Oper} {H H1 : RW} {nx : Next} (e : flatc P ρ o H = some (nx, H1)) : H1 = H ∧ ∃ v, nx = .value v := by
  unfold flatc at e
  cases hc : (o.op.operands.toList.all fun x => fl2 (ρ x)) with
  | false => rw [hc] at e; cases e
  | true =>
    rw [hc] at e
    dsimp only [cond_true] at e
    split at e
    · rename_i v _
      cases hf : flat v with
      | false => rw [hf] at e; cases e
      | true => rw [hf] at e; obtain ⟨rfl, rfl⟩ := Prod.mk.inj (Option.some.inj e); exact ⟨rfl, v, rfl⟩
    · cases e
theorem sv_value [Ltr] {s : Sem Value} {H H1 : RW} {nx : Next} (h : RO P base s) (e : sv P base (do Pure.pure (Next.value (← s))) H = some (nx, H1)) : H1 = H ∧ ∃ v, nx = .value v := by
  have e2 : sv P base (Sem.bind s _) H = some (nx, H1) := e
  rw [sv_bind] at e2
  cases hs : sv P base s H with
  | none => rw [hs] at e2; cases e2
  | some x =>
    obtain ⟨a, H2⟩ := x
    rw [hs] at e2
    obtain ⟨rfl, rfl⟩ := Prod.mk.inj (Option.some.inj e2)
    exact ⟨h H a H2 hs, a, rfl⟩
theorem quiet_H [Ltr] {ρ : Operand → Value} {o : Oper} {H H1 : RW} {nx : Next} (hq : quiet P o.op = true) (e : evAll P base ρ o H = some (nx, H1)) : H1 = H ∧ ∃ v, nx = .value v := by
  have val : ∀ {v : Value}, some (Next.value v, H) = some (nx, H1) → H1 = H ∧ ∃ v, nx = .value v := by
    intro v e
    obtain ⟨rfl, rfl⟩ := Prod.mk.inj (Option.some.inj e)
    exact ⟨rfl, v, rfl⟩
  unfold evAll at e
  cases h0 : evOp P base ρ o H with
  | some r =>
    rw [h0] at e
    obtain rfl := Option.some.inj e
    unfold evOp at h0
    cases ho : o.op with
    | move x => simp only [ho] at h0; exact val h0
    | assign x => simp only [ho] at h0; exact val h0
    | pick c a b =>
      simp only [ho] at h0
      split at h0
      · exact val h0
      · cases h0
    | load t x => simp only [ho] at h0; simp only [execOp, ho] at h0; exact sv_value (RO.bind (RO.sureAddr _) fun a => RO.loadVar t a) h0
    | field t x f => simp only [ho] at h0; simp only [execOp, ho] at h0; exact sv_value (RO.field _ _ _) h0
    | extract x i => simp only [ho] at h0; simp only [execOp, ho] at h0; exact sv_value (RO.extract _ _) h0
    | indexAddr t x y => simp only [ho] at h0; simp only [execOp, ho] at h0; exact sv_value (RO.indexAt _ _ _) h0
    | fieldAddr t x f =>
      simp only [ho] at h0
      cases hz : fokAt P t f with
      | false => rw [hz] at h0; cases h0
      | true => rw [hz] at h0; simp only [execOp, ho] at h0; exact sv_value (RO.fieldAt hz) h0
    | build t parts =>
      simp only [ho] at h0
      obtain ⟨_, h0⟩ := cond_some h0
      split at h0
      · exact val h0
      · cases h0
    | nilCheck x =>
      simp only [ho] at h0
      split at h0 <;> first | exact val h0 | cases h0
    | makeFunc f x y =>
      simp only [ho] at h0
      split at h0 <;> first | (rename_i h; cases h; done) | exact val h0 | cases h0
    | makeInterface t x =>
      simp only [ho] at h0
      split at h0 <;> first | exact val h0 | cases h0
    | slice t x lo hi mx =>
      simp only [ho] at h0
      cases hf : flat (ρ x) with
      | true => rw [hf] at h0; exact flatc_H h0
      | false =>
        rw [hf] at h0
        dsimp only [cond_false] at h0
        obtain ⟨_, h0⟩ := cond_some h0
        cases hs : sv P base (Instr.sliceAt t (ρ x) (lo.map ρ) (hi.map ρ) (mx.map ρ)) H with
        | none => rw [hs] at h0; cases h0
        | some p =>
          obtain ⟨v, H2⟩ := p
          rw [hs] at h0
          obtain ⟨_, h0⟩ := cond_some h0
          obtain ⟨rfl, rfl⟩ := Prod.mk.inj (Option.some.inj h0)
          exact ⟨RO.sliceAt t (ρ x) _ _ _ hf H v H2 hs, v, rfl⟩
    | binOp op t x y t' =>
      simp only [ho] at h0
      cases hf : (fl2 (ρ x) && fl2 (ρ y)) with
      | true => rw [hf] at h0; exact flatc_H h0
      | false =>
        rw [hf] at h0
        dsimp only [cond_false] at h0
        split at h0
        · exact val h0
        · cases h0
    | unOp op t x => simp only [ho] at h0; exact flatc_H h0
    | convert s d x => simp only [ho] at h0; exact flatc_H h0
    | index t x y =>
      simp only [ho] at h0
      cases hf : flat (ρ x) with
      | true => rw [hf] at h0; exact flatc_H h0
      | false => rw [hf] at h0; simp only [execOp, ho] at h0; exact sv_value (RO.index _ _ _ hf) h0
    | call c =>
      simp only [ho] at h0
      rw [ho] at hq
      cases hc : c.callee with
      | builtin b =>
        simp only [hc] at h0
        simp only [quiet, hc] at hq
        cases b with
        | len =>
          dsimp only at h0
          split at h0
          · split at h0
            · exact val h0
            · exact flatc_H h0
          · cases h0
        | min => exact flatc_H h0
        | max => exact flatc_H h0
        | _ => cases hq
      | _ => simp [quiet, hc] at hq
    | lookup t m k ok => simp only [ho] at h0; cases h0
    | _ => rw [ho] at hq; cases hq
  | none =>
    rw [h0] at e
    dsimp only at e
    cases ho : o.op with
    | convert s d x =>
      simp only [ho] at e
      cases hb : b2s P H s d (ρ x) with
      | some v => rw [hb] at e; exact val e
      | none =>
        rw [hb] at e
        obtain ⟨_, e⟩ := cond_some e
        cases hs : s2b P H s d (ρ x) with
        | none => rw [hs] at e; cases e
        | some p =>
          exfalso
          unfold s2b at hs
          split at hs
          · rename_i hd _
            rw [ho] at hq
            simp only [quiet] at hq
            rw [hd] at hq
            cases hq
          · cases hs
    | slice t x lo hi mx =>
      simp only [ho] at e
      cases hc : (lo.toList ++ hi.toList ++ mx.toList).all (fun y => flat (ρ y)) with
      | false => rw [hc] at e; cases e
      | true =>
        rw [hc] at e
        dsimp only [cond_true] at e
        split at e
        · exact val e
        · cases e
    | makeSlice t x y => rw [ho] at hq; cases hq
    | makeMap t r => rw [ho] at hq; cases hq
    | range t x => rw [ho] at hq; cases hq
    | next x b => rw [ho] at hq; cases hq
    | mapUpdate t m k v => rw [ho] at hq; cases hq
    | lookup t m k ok =>
      simp only [ho] at e
      obtain ⟨_, e⟩ := cond_some e
      split at e
      · exact val e
      · cases e
    | call c =>
      simp only [ho] at e
      rw [ho] at hq
      split at e
      · rename_i hc _ _; simp [quiet, hc] at hq
      · rename_i hc _ _; simp [quiet, hc] at hq
      · cases e
    | _ => simp only [ho] at e; cases e
end
end Go.Proofs.YtnggajehngemmaaGreatDoor
/-
  A run by reckoning: operations that read no memory come to the same, whatever memory.
-/
namespace Go.Proofs.YtnggajehngemmaaGreatDoor
open Go Go.RowKit
section
variable {P : Program} {base : Nat} {α β γ : Type}
theorem Mless.program : Mless P base Go.program := fun H r H1 e => by
  obtain ⟨rfl, rfl⟩ := Prod.mk.inj (Option.some.inj e)
  exact ⟨rfl, rfl⟩
theorem Mless.typeInfo [Ltr] (t : TypeId) : Mless P base (Go.typeInfo t) := Mless.bind Mless.program fun p => by
  cases p.info? t with
  | none => exact Mless.never fun _ => rfl
  | some i => exact Mless.pure i
theorem Mless.underlying [Ltr] (t : TypeId) : Mless P base (Go.underlying t) := Mless.bind Mless.program fun p => by
  cases p.underlying t with
  | none => exact Mless.never fun _ => rfl
  | some i => exact Mless.pure i
theorem Mless.sizeOf [Ltr] (t : TypeId) : Mless P base (Go.sizeOf t) := Mless.bind (Mless.typeInfo t) fun _ => Mless.pure _
theorem Mless.isAgg [Ltr] (t : TypeId) : Mless P base (Go.isAgg t) := Mless.bind (Mless.underlying t) fun d => by cases d <;> exact Mless.pure _
theorem Mless.sureAddr [Ltr] (v : Value) : Mless P base (Instr.sureAddr v) := by
  cases v with
  | pointer a => cases a with
    | none => exact Mless.never fun _ => rfl
    | some a => exact Mless.pure a
  | _ => exact Mless.never fun _ => rfl
theorem Mless.part [Ltr] (t : TypeId) (c : Array Value) (o : Nat) : Mless P base (Go.part t c o) := Mless.bind (Mless.isAgg t) fun b => by
  cases b with
  | true => exact Mless.bind (Mless.sizeOf t) fun n => Mless.pure _
  | false =>
    show Mless P base (match c[o]? with | some v => Pure.pure v | none => Go.stuck _)
    cases c[o]? with
    | none => exact Mless.never fun _ => rfl
    | some v => exact Mless.pure v
theorem Mless.field [Ltr] (t : TypeId) (v : Value) (f : Nat) : Mless P base (Instr.field t v f) := Mless.bind (Mless.underlying t) fun d => by
  cases d with
  | struct fs =>
    dsimp only
    cases fs[f]? with
    | none => exact Mless.never fun _ => rfl
    | some x => exact Mless.bind (by cases v <;> first | exact Mless.pure _ | exact Mless.never fun _ => rfl) fun _ => Mless.part _ _ _
  | _ => exact Mless.never fun _ => rfl
theorem Mless.extract [Ltr] (v : Value) (i : Nat) : Mless P base (Instr.extract v i) := by
  cases v with
  | tuple x =>
    unfold Instr.extract
    dsimp only
    cases x[i]? with
    | none => exact Mless.never fun _ => rfl
    | some v => exact Mless.pure v
  | _ => exact Mless.never fun _ => rfl
theorem Mless.orPanic [Ltr] {c : Prop} [Decidable c] {u : Unsupported} {k : IntKind} {x y : Int} {code : BoundsCode} : Mless P base (if c then Go.unsupported (α := α) u else boundsPanic k x y code) := by
  split
  · exact Mless.never fun _ => rfl
  · exact Mless.never sv_boundsPanic
theorem Mless.indexAt [Ltr] (t : TypeId) (x i : Value) : Mless P base (Instr.indexAt t x i) := Mless.bind (Mless.asIntOf i) fun y => by
  obtain ⟨k, n⟩ := y
  refine Mless.bind (Mless.underlying t) fun d => ?_
  have tail : ∀ (b : Option Addr) (len : Nat) (el : TypeId) (s : Addr → Sem Value) (r : Sem Value), (∀ a, Mless P base (s a)) → Mless P base r → Mless P base (match b with | some a => s a | none => r) := by
    intro b len el s r h1 h2
    cases b with
    | none => exact h2
    | some a => exact h1 a
  have mid : ∀ {a : Addr} {len : Nat} {el : TypeId} {s : Sem Value}, Mless P base s → Mless P base (if 0 ≤ n ∧ n < (len : Int) then (Go.sizeOf el >>= fun z => Pure.pure (Value.pointer (some (a.add (n.toNat * z))))) else s) := by
    intro a len el s hs
    split
    · exact Mless.bind (Mless.sizeOf el) fun _ => Mless.pure _
    · exact hs
  cases d with
  | array len el => exact Mless.bind (Mless.sureAddr x) fun a => Mless.bind (Mless.pure _) fun q => by obtain ⟨b, l, el'⟩ := q; exact Mless.bind (Mless.underlying t) fun d => tail b l el' _ _ (fun a => mid Mless.orPanic) (Mless.never sv_boundsPanic)
  | slice el =>
    cases x with
    | slice b len c => exact Mless.bind (Mless.pure _) fun q => by obtain ⟨b, l, el'⟩ := q; exact Mless.bind (Mless.underlying t) fun d => tail b l el' _ _ (fun a => mid Mless.orPanic) (Mless.never sv_boundsPanic)
    | _ => exact Mless.never fun _ => rfl
  | _ => exact Mless.never fun _ => rfl
theorem Mless.index [Ltr] (t : TypeId) (x i : Value) (hf : flat x = false) : Mless P base (Instr.index t x i) := Mless.bind (Mless.asIntOf i) fun y => by
  obtain ⟨k, n⟩ := y
  refine Mless.bind (Mless.underlying t) fun d => ?_
  cases d with
  | array len el =>
    cases x with
    | agg cs =>
      dsimp only
      split
      · exact Mless.bind (Mless.sizeOf el) fun _ => Mless.part _ _ _
      · exact Mless.never sv_boundsPanic
    | _ => exact Mless.never fun _ => rfl
  | string =>
    cases x with
    | string s => cases hf
    | _ => exact Mless.never fun _ => rfl
  | _ => cases x <;> exact Mless.never fun _ => rfl
theorem Mless.at [Ltr] {s : Sem α} (h : Mless P base s) {H H1 : RW} {r : α} (e : sv P base s H = some (r, H1)) (K : RW) : sv P base s K = some (r, K) := svp_sv K (h H r H1 e).1
/-- the kinds that read no memory -/
def memfree : Op → Bool
  | .move _ | .assign _ | .pick .. | .extract .. | .indexAddr .. | .binOp .. | .nilCheck _ | .makeFunc .. => true
  | _ => false
theorem flatc_at {ρ : Operand → Value} {o : Oper} {H H1 : RW} {nx : Next} (e : flatc P ρ o H = some (nx, H1)) (K : RW) : flatc P ρ o K = some (nx, K) := by
  unfold flatc at e ⊢
  cases hc : (o.op.operands.toList.all fun x => fl2 (ρ x)) with
  | false => rw [hc] at e; cases e
  | true =>
    rw [hc] at e
    dsimp only [cond_true] at e ⊢
    split at e
    · rename_i v _
      cases hf : flat v with
      | false => rw [hf] at e; cases e
      | true => rw [hf] at e; obtain ⟨rfl, rfl⟩ := Prod.mk.inj (Option.some.inj e); rfl
    · cases e
theorem memfree_at [Ltr] {ρ : Operand → Value} {o : Oper} {H H1 : RW} {nx : Next} (hq : memfree o.op = true) (e : evAll P base ρ o H = some (nx, H1)) (K : RW) : evAll P base ρ o K = some (nx, K) := by
  have out : ∀ {L : RW}, evOp P base ρ o L = some (nx, L) → evAll P base ρ o L = some (nx, L) := fun h => by unfold evAll; rw [h]
  have inn : evOp P base ρ o H = some (nx, H1) := by
    unfold evAll at e
    cases h0 : evOp P base ρ o H with
    | some r => rw [h0] at e; exact e
    | none =>
      rw [h0] at e
      dsimp only at e
      cases ho : o.op <;> simp only [ho] at e hq <;> first | (cases e; done) | (cases hq; done)
  refine out ?_
  unfold evOp at inn ⊢
  cases ho : o.op with
  | move x => simp only [ho] at inn ⊢; obtain ⟨rfl, rfl⟩ := Prod.mk.inj (Option.some.inj inn); rfl
  | assign x => simp only [ho] at inn ⊢; obtain ⟨rfl, rfl⟩ := Prod.mk.inj (Option.some.inj inn); rfl
  | pick c a b =>
    simp only [ho] at inn ⊢
    split at inn
    · obtain ⟨rfl, rfl⟩ := Prod.mk.inj (Option.some.inj inn); rfl
    · cases inn
  | extract x i =>
    simp only [ho, execOp] at inn ⊢
    exact Mless.at (Mless.bind (Mless.extract _ _) fun _ => Mless.pure _) inn K
  | indexAddr t x y =>
    simp only [ho, execOp] at inn ⊢
    exact Mless.at (Mless.bind (Mless.indexAt _ _ _) fun _ => Mless.pure _) inn K
  | binOp op t x y t' =>
    simp only [ho] at inn ⊢
    cases hf : (fl2 (ρ x) && fl2 (ρ y)) with
    | true => rw [hf] at inn; exact flatc_at inn K
    | false =>
      rw [hf] at inn
      dsimp only [cond_false] at inn ⊢
      split at inn
      · obtain ⟨rfl, rfl⟩ := Prod.mk.inj (Option.some.inj inn); rfl
      · cases inn
  | nilCheck x =>
    simp only [ho] at inn ⊢
    split at inn <;> first | (obtain ⟨rfl, rfl⟩ := Prod.mk.inj (Option.some.inj inn); rfl) | cases inn
  | makeFunc g a b =>
    simp only [ho] at inn ⊢
    split at inn <;> first | (rename_i h; cases h; done) | (obtain ⟨rfl, rfl⟩ := Prod.mk.inj (Option.some.inj inn); rfl) | cases inn
  | _ => rw [ho] at hq; cases hq
end
end Go.Proofs.YtnggajehngemmaaGreatDoor
/-
  A run by reckoning, part 7: regions, code, calls.
-/
namespace Go.Proofs.YtnggajehngemmaaGreatDoor
open Go Go.RowKit
structure St where
  f : List Value
  H : RW
  ds : List Nat
/-- any function, any depth; a round's frame, or none -/
def Wd (ro : Option Nat) : Fence := { Fence.wide with round := ro }
def slot : List Value → Nat → Value
  | [], _ => undef
  | v :: _, 0 => v
  | _ :: l, n + 1 => slot l n
def ev (f : List Value) : Operand → Value
  | .tmp t => slot f t
  | .const v => v
  | .global g => .pointer (some ⟨g, 0, none⟩)
  | .func g => .func (.func g) #[] #[]
def okC (G : Nat) : Operand → Bool
  | .const v => flat v
  | .global g => Nat.blt g G
  | _ => true
def Gl (G : Nat) (E : Ren) : Prop := ∀ g, g < G → ∃ k, E g = some (g, k)
theorem Gl.mono {G : Nat} {E F : Ren} (x : Ext E F) (h : Gl G E) : Gl G F := fun g hg => let ⟨k, e⟩ := h g hg; ⟨k, x _ _ e⟩
/-- the marks of loops that have been begun -/
def RelD (E : Ren) : List Nat → List Deferred → Prop
  | [], l => l = []
  | i :: ds, l => ∃ b k m, E i = some (b, k) ∧ l = { target := .collected b, args := #[] } :: m ∧ RelD E ds m
theorem RelD.mono {E F : Ren} (x : Ext E F) : ∀ {ds : List Nat} {l : List Deferred}, RelD E ds l → RelD F ds l
  | [], _, h => h
  | _ :: _, _, ⟨b, k, m, e, hl, h⟩ => ⟨b, k, m, x _ _ e, hl, h.mono x⟩
structure FR [Ltr] (G : Nat) (X : Kep) (base : Nat) (E : Ren) (s : St) (a : Act) (w : World) : Prop where
  d : RelD E s.ds a.defers
  t : RelL E s.f a.tmps.toList
  r : Rep X base E s.H w
  g : Gl G E
section
variable {P : Program} {G : Nat} {X : Kep} {base : Nat} {E : Ren}
theorem slot_rel [Ltr] {l l' : List Value} : RelL E l l' → ∀ t, Rel E (slot l t) (l'.getD t undef)
  | .nil, t => by simpa [slot] using Rel.same (E := E) (v := undef) rfl
  | .cons h _, 0 => by simpa [slot] using h
  | .cons _ k, t + 1 => by simpa [slot] using slot_rel k t
theorem getD_toList (x : Array Value) (t : Nat) : x.getD t undef = x.toList.getD t undef := by
  rw [Array.getD_eq_getD_getElem?, List.getD_eq_getElem?_getD]
  simp
theorem ev_rel [Ltr] {s : St} {a : Act} {w : World} (h : FR G X base E s a w) {x : Operand} (hk : okC G x = true) : Rel E (ev s.f x) (a.eval x) := by
  cases x with
  | tmp t => rw [Act.eval, getD_toList]; exact slot_rel h.t t
  | const v => exact .same hk
  | global g => obtain ⟨k, e⟩ := h.g g (by simpa [okC, Nat.blt_eq] using hk); exact .ptr e
  | func g => exact .same rfl
def pt (d : Option Tmp) (v : Value) (f : List Value) : List Value :=
  match d with
  | some d => f.set d v
  | none => f
theorem FR.put [Ltr] {F : Ren} {s : St} {a : Act} {w w' : World} (h : FR G X base E s a w) {H1 : RW} (x : Ext E F) (R : Rep X base F H1 w') {v v' : Value} (hv : Rel F v v') (d : Option Tmp) : FR G X base F ⟨pt d v s.f, H1, s.ds⟩ (a.put d v') w' := by
  cases d with
  | none => exact ⟨h.d.mono x, RelL.mono x h.t, R, h.g.mono x⟩
  | some d =>
    refine ⟨h.d.mono x, ?_, R, h.g.mono x⟩
    simp only [pt, Act.put, Array.toList_setIfInBounds]
    exact (RelL.mono x h.t).set hv d
theorem Rel.isBool [Ltr] {v v' : Value} (h : Rel E v v') (ht : isTop v = false) : (match some v with | some (.bool b) => some b | _ => none) = (match some v' with | some (.bool b) => some b | _ => none) := by
  cases h with
  | ltr h hs => cases v' <;> first | (cases hs; done) | rfl
  | prd h hs => cases v' <;> first | (cases hs; done) | rfl
  | any => cases ht
  | _ => rfl
/-- what the operation's guard stands on is no riddle -/
def gdOk (ops : Array Oper) (o : Oper) (f : List Value) : Bool :=
  match o.guard with
  | none => true
  | some g => match (ops[g.1]?).bind (·.dst) with
    | none => true
    | some d => !isTop (slot f d)
theorem slot_some {v : Value} : ∀ {l : List Value} {d : Nat}, l[d]? = some v → slot l d = v
  | [], d, e => by simp at e
  | a :: l, 0, e => by simpa [slot] using e
  | a :: l, d + 1, e => by simpa [slot] using slot_some (l := l) (d := d) (by simpa using e)
theorem yielded_eq [Ltr] {ops : Array Oper} {l : List Value} {x : Array Value} (h : RelL E l x.toList) (j : Nat) (ht : (match (ops[j]?).bind (·.dst) with | none => true | some d => !isTop (slot l d)) = true) : yielded ops ⟨l⟩ j = yielded ops x j := by
  unfold yielded
  cases hd : (ops[j]?).bind (·.dst) with
  | none => rfl
  | some d =>
    show (match (⟨l⟩ : Array Value)[d]? with | some (.bool b) => some b | _ => none) = (match x[d]? with | some (.bool b) => some b | _ => none)
    cases hl : l[d]? with
    | none =>
      have hlen : l.length ≤ d := List.getElem?_eq_none_iff.1 hl
      have h1 : x[d]? = none := by
        rw [Array.getElem?_eq_none_iff]
        have := h.length
        simp at this
        omega
      have h2 : (⟨l⟩ : Array Value)[d]? = none := by simpa using hl
      rw [h1, h2]
    | some v =>
      obtain ⟨v', hv', r⟩ := h.get hl
      have h1 : x[d]? = some v' := by simpa using hv'
      have h2 : (⟨l⟩ : Array Value)[d]? = some v := by simpa using hl
      rw [h1, h2]
      rw [hd] at ht
      refine r.isBool ?_
      rw [← slot_some hl]
      simpa using ht
theorem wanted_eq [Ltr] {ops : Array Oper} {o : Oper} {l : List Value} {x : Array Value} (h : RelL E l x.toList) (ht : gdOk ops o l = true) : Region.wanted o (yielded ops x) = Region.wanted o (yielded ops ⟨l⟩) := by
  unfold Region.wanted
  unfold gdOk at ht
  cases hg : o.guard with
  | none => rfl
  | some g => rw [hg] at ht; dsimp only; rw [yielded_eq h _ ht]
abbrev Caller := FuncId → List Value → RW → Option (Value × RW)
/-- a round of a loop over a function -/
abbrev Rounder := Nat → List Value → RW → Option (Value × RW)
/-- a call of a loop's yield -/
def isYield (f : List Value) (o : Oper) : Option (Nat × List Value) :=
  match o.op with
  | .call c => match c.callee with
    | .value x => match ev f x with
      | .func (.yield l) ⟨[]⟩ ⟨[]⟩ => some (l, c.args.toList.map (ev f))
      | _ => none
    | _ => none
  | _ => none
/-- what a call over names has come to, it comes to over memory -/
def CallOk [Ltr] (P : Program) (G : Nat) (X : Kep) (base : Nat) (call : Caller) : Prop :=
  ∀ f args H v H1 E w args', Rep X base E H w → Gl G E → RelL E args args' → call f args H = some (v, H1) →
    Calls P f ⟨args'⟩ w fun e w' => ∃ v' F, e = .returned v' ∧ Ext E F ∧ Rep X base F H1 w' ∧ Kp X w w' ∧ Rel F v v'
/-- what a round over names has come to, yield comes to over memory -/
def RoundOk [Ltr] (P : Program) (G : Nat) (X : Kep) (base : Nat) (yld : Rounder) : Prop :=
  ∀ l args H v H1 E w b k args', Rep X base E H w → Gl G E → E l = some (b, k) → RelL E args args' → yld l args H = some (v, H1) →
    ∃ fn tmps assign body, (Instr.yield b ⟨args'⟩).run P w = .ok (.round b fn tmps assign body) w ∧
      ∀ n, RoundIn (Wd none) n P b fn tmps assign body w fun e w' => ∃ v' F, e = .returned v' ∧ Ext E F ∧ Rep X base F H1 w' ∧ Kp X w w' ∧ Rel F v v'
def Post [Ltr] (G : Nat) (X : Kep) (base : Nat) (E : Ren) (w : World) (x : Exit) (s1 : St) : Exit → Act → World → Prop :=
  fun e a' w' => e = x ∧ ∃ F, Ext E F ∧ FR G X base F s1 a' w' ∧ Kp X w w'
/-- what is known: an operation over letters; one over letters and memory; a loop -/
class Orc where
  f : Op → (Operand → Value) → Option Value
  m : Op → (Operand → Value) → RW → Option (Next × RW)
  c : Code → St → Option (Exit × St)
def evM [Orc] (P : Program) (base : Nat) (ρ : Operand → Value) (o : Oper) (H : RW) : Option (Next × RW) :=
  match evAll P base ρ o H with
  | some r => some r
  | none => bif memfree o.op then none else Orc.m o.op ρ H
class OrcOk [Ltr] (P : Program) (G : Nat) (X : Kep) (base : Nat) [Orc] : Prop where
  ok : ∀ (o : Oper) (ρ ρ' : Operand → Value) (E : Ren) (v : Value), (∀ x ∈ o.op.operands, Rel E (ρ x) (ρ' x)) → Orc.f o.op ρ = some v → ∀ w : World, (∀ b, X b → w.heap[b]? = X.ob b) → ∃ v', (execOp ρ' o).run P w = .ok (.value v') w ∧ Rel E v v' ∧ ∀ c, o.op ≠ .defer c
  mok : ∀ (o : Oper) (ρ ρ' : Operand → Value) (E : Ren) (H H1 : RW) (nx : Next) (w : World), (∀ x ∈ o.op.operands, Rel E (ρ x) (ρ' x)) → Rep X base E H w → Orc.m o.op ρ H = some (nx, H1) → Does P X base E w nx H1 (execOp ρ' o)
  mq : ∀ (o : Op) (ρ : Operand → Value) (H H1 : RW) (nx : Next), Orc.m o ρ H = some (nx, H1) → (∀ c, o ≠ .defer c) ∧ (quiet P o = true → H1 = H ∧ ∃ u, nx = .value u)
  cok : ∀ (ro : Option Nat) (n : Nat) (c : Code) (s : St) (x : Exit) (s1 : St) (E : Ren) (a : Act) (w : World), FR G X base E s a w → Orc.c c s = some (x, s1) → c.wpIn (Wd ro) n P (Post G X base E w x s1) a w
def evOps [Orc] (P : Program) (G base : Nat) (call : Caller) (yld : Rounder) (ops : Array Oper) : List Nat → St → Option St
  | [], s => some s
  | i :: rest, s => match ops[i]? with
    | none => none
    | some o => bif gdOk ops o s.f then bif Region.wanted o (yielded ops ⟨s.f⟩) then
        bif o.op.operands.toList.all (okC G) then match isYield s.f o with
          | some (l, args) => match yld l args s.H with
            | some (v, H1) => evOps P G base call yld ops rest ⟨pt o.dst v s.f, H1, s.ds⟩
            | none => none
          | none => match Orc.f o.op (ev s.f) with
            | some v => evOps P G base call yld ops rest ⟨pt o.dst v s.f, s.H, s.ds⟩
            | none => match evM P base (ev s.f) o s.H with
            | some (.value v, H1) => evOps P G base call yld ops rest ⟨pt o.dst v s.f, H1, s.ds⟩
            | some (.skip, H1) => evOps P G base call yld ops rest ⟨pt o.dst undef s.f, H1, s.ds⟩
            | some (.enter f args, H1) => match call f args.toList H1 with
              | some (v, H2) => evOps P G base call yld ops rest ⟨pt o.dst v s.f, H2, s.ds⟩
              | none => none
            | _ => none
        else none
      else evOps P G base call yld ops rest ⟨pt o.dst undef s.f, s.H, s.ds⟩
      else none
theorem Post.trans [Ltr] {F : Ren} {w w1 : World} {x : Exit} {s1 : St} (h : Ext E F) (b : Kp X w w1) {e : Exit} {a' : Act} {w' : World} (p : Post G X base F w1 x s1 e a' w') : Post G X base E w x s1 e a' w' := by
  obtain ⟨rfl, K, x1, R, b1⟩ := p
  exact ⟨rfl, K, h.trans x1, R, b.trans b1⟩
theorem wd_fn {ro : Option Nat} (f : FuncId) : (Wd ro).fn f := trivial
theorem wd_depth {ro : Option Nat} {n : Nat} : (Wd ro).depth.isSome = true → 1 ≤ n := fun h => by cases h
/-- a call, in whatever frame -/
theorem calls_wd {ro : Option Nat} {n : Nat} {f : FuncId} {args : Array Value} {w : World} {R : Ending → World → Prop} (h : Calls P f args w R) : CallsIn (Wd ro) n P f args w R := by
  have : CallsIn Fence.wide n P f args w R := callsIn_wide.2 h
  exact this
theorem wpOpsIn_mono {ro : Option Nat} {n : Nat} {ops : Array Oper} {Q Q' : Exit → Act → World → Prop} (hq : ∀ e a w, Q e a w → Q' e a w) : ∀ (l : List Nat) (a : Act) (w : World), wpOpsIn (Wd ro) n P ops Q l a w → wpOpsIn (Wd ro) n P ops Q' l a w
  | [], a, w, h => hq _ _ _ h
  | i :: rest, a, w, h => by
    unfold wpOpsIn at h ⊢
    cases ho : ops[i]? with
    | none => rw [ho] at h; exact wpOpsIn_mono hq rest a w h
    | some o =>
      rw [ho] at h
      dsimp only at h ⊢
      split
      · rename_i hw
        rw [if_pos hw] at h
        obtain ⟨h1, h⟩ := h
        refine ⟨h1, ?_⟩
        generalize (o.semAt (Wd ro).round a.eval).run P w = r at h ⊢
        unfold Oper.uponIn at h ⊢
        split at h
        · exact wpOpsIn_mono hq rest _ _ h
        · exact wpOpsIn_mono hq rest _ _ h
        · exact wpOpsIn_mono hq rest _ _ h
        · refine ⟨h.1, CallsIn.mono h.2 fun e w' p => ?_⟩
          cases e with
          | returned v => exact wpOpsIn_mono hq rest _ _ p
          | panicked c => exact hq _ _ _ p
          | outgrown => obtain ⟨a0, w0, p⟩ := p; exact ⟨a0, w0, hq _ _ _ p⟩
        · exact ⟨h.1, RowsIn.mono h.2 fun v w' p => wpOpsIn_mono hq rest _ _ p⟩
        · refine ⟨h.1, RoundIn.mono h.2 fun e w' p => ?_⟩
          cases e with
          | returned v => exact wpOpsIn_mono hq rest _ _ p
          | panicked c => exact hq _ _ _ p
          | outgrown => obtain ⟨a0, w0, p⟩ := p; exact ⟨a0, w0, hq _ _ _ p⟩
        · exact hq _ _ _ h
        · exact h.elim
      · rename_i hw
        rw [if_neg hw] at h
        exact ⟨h.1, wpOpsIn_mono hq rest _ _ h.2⟩
theorem no_defer {ρ : Operand → Value} {o : Oper} {H : RW} {r : Next × RW} (e : evAll P base ρ o H = some r) : ∀ c, o.op ≠ .defer c := by
  intro c hc
  unfold evAll evOp at e
  simp only [hc] at e
  cases e
theorem evM_nodefer [Ltr] [Orc] [OrcOk P G X base] {ρ : Operand → Value} {o : Oper} {H : RW} {r : Next × RW} (e : evM P base ρ o H = some r) : ∀ c, o.op ≠ .defer c := by
  unfold evM at e
  cases h : evAll P base ρ o H with
  | some q => exact no_defer h
  | none =>
    rw [h] at e
    dsimp only at e
    cases hm : memfree o.op with
    | true => rw [hm] at e; cases e
    | false =>
      rw [hm] at e
      exact (OrcOk.mq (P := P) (G := G) (X := X) (base := base) o.op ρ H r.2 r.1 e).1
theorem evM_sound [Ltr] [Orc] [OrcOk P G X base] {ρ ρ' : Operand → Value} {o : Oper} {H H1 : RW} {nx : Next} {w : World} (hρ : ∀ x ∈ o.op.operands, Rel E (ρ x) (ρ' x)) (hR : Rep X base E H w)
    (e : evM P base ρ o H = some (nx, H1)) : Does P X base E w nx H1 (execOp ρ' o) := by
  unfold evM at e
  cases h : evAll P base ρ o H with
  | some q =>
    rw [h] at e
    obtain rfl := Option.some.inj e
    exact evAll_sound hρ hR h
  | none =>
    rw [h] at e
    dsimp only at e
    cases hm : memfree o.op with
    | true => rw [hm] at e; cases e
    | false =>
      rw [hm] at e
      exact OrcOk.mok (P := P) (G := G) (X := X) (base := base) o ρ ρ' E H H1 nx w hρ hR e
theorem evM_quiet [Ltr] [Orc] [OrcOk P G X base] {ρ : Operand → Value} {o : Oper} {H H1 : RW} {nx : Next} (hq : quiet P o.op = true) (e : evM P base ρ o H = some (nx, H1)) : H1 = H ∧ ∃ u, nx = .value u := by
  unfold evM at e
  cases h : evAll P base ρ o H with
  | some q =>
    rw [h] at e
    obtain rfl := Option.some.inj e
    exact quiet_H hq h
  | none =>
    rw [h] at e
    dsimp only at e
    cases hm : memfree o.op with
    | true => rw [hm] at e; cases e
    | false =>
      rw [hm] at e
      exact (OrcOk.mq (P := P) (G := G) (X := X) (base := base) o.op ρ H H1 nx e).2 hq
theorem evM_free [Orc] {ρ : Operand → Value} {o : Oper} {H : RW} {r : Next × RW} (hm : memfree o.op = true) (e : evM P base ρ o H = some r) : evAll P base ρ o H = some r := by
  unfold evM at e
  cases h : evAll P base ρ o H with
  | some q => rw [h] at e; exact e
  | none => rw [h, hm] at e; cases e
theorem evM_of [Orc] {ρ : Operand → Value} {o : Oper} {H : RW} {r : Next × RW} (e : evAll P base ρ o H = some r) : evM P base ρ o H = some r := by
  unfold evM
  rw [e]
/-- an operation that has been reckoned, in whatever frame -/
theorem upon_of [Ltr] [Orc] {ro : Option Nat} {n : Nat} {o : Oper} {a : Act} {w : World} {next : Act → World → Prop} {Q : Exit → Act → World → Prop} (hd : ∀ c, o.op ≠ .defer c) (h : o.uponIn (Wd ro) n P a next Q ((execOp a.eval o).run P w)) : o.wpIn (Wd ro) n P a w next Q :=
  ⟨fun f _ => wd_fn f, by rw [Oper.semAt_eq _ _ _ hd]; exact h⟩
theorem yield_run [Ltr] {s : St} {a : Act} {w : World} (h : FR G X base E s a w) {o : Oper} {l : Nat} {args : List Value} (hk : o.op.operands.toList.all (okC G) = true) (hy : isYield s.f o = some (l, args)) :
    ∃ b k args', E l = some (b, k) ∧ RelL E args args' ∧ (∀ c, o.op ≠ .defer c) ∧ ∀ r, (Instr.yield b ⟨args'⟩).run P w = r → (execOp a.eval o).run P w = r := by
  unfold isYield at hy
  split at hy
  · rename_i c ho
    split at hy
    · rename_i x hc
      split at hy
      · rename_i l' hx
        obtain ⟨rfl, rfl⟩ := Prod.mk.inj (Option.some.inj hy)
        have hop : o.op.operands = #[x] ++ c.args := by rw [ho]; simp [Op.operands, Call.operands, hc]
        have hrel : ∀ y, y ∈ #[x] ++ c.args → Rel E (ev s.f y) (a.eval y) := fun y hy => ev_rel h (List.all_eq_true.1 hk y (by rw [hop]; simpa using hy))
        have hx' := hrel x (by simp)
        rw [hx] at hx'
        generalize hz : a.eval x = z at hx'
        cases hx' with
        | same hf => cases hf
        | @yld _ b k hE =>
          refine ⟨b, k, c.args.toList.map a.eval, hE, RelL.of fun y hy => hrel y (by simp at hy ⊢; exact .inr hy), fun c' h' => (by rw [ho] at h'; cases h'), fun r hr => ?_⟩
          have e1 : c.args.map a.eval = ⟨c.args.toList.map a.eval⟩ := by apply Array.ext'; simp
          simp only [execOp, ho, resolve, hc, hz, e1, Deferred.ofValue, invoke, pure_bind]
          rw [← hr]
          congr 2
          apply Array.ext'
          simp
      · cases hy
    · cases hy
  · cases hy
theorem evOps_sound [Ltr] [Orc] [OrcOk P G X base] {ro : Option Nat} {n : Nat} {call : Caller} {yld : Rounder} (hc : CallOk P G X base call) (hy : RoundOk P G X base yld) {ops : Array Oper} : ∀ (l : List Nat) {s s1 : St} {E : Ren} {a : Act} {w : World}, FR G X base E s a w → evOps P G base call yld ops l s = some s1 →
    wpOpsIn (Wd ro) n P ops (Post G X base E w .normal s1) l a w
  | [], s, s1, E, a, w, h, e => by
    obtain rfl := Option.some.inj e
    exact ⟨rfl, E, Ext.refl E, h, Kp.refl _ _⟩
  | i :: rest, s, s1, E, a, w, h, e => by
    unfold evOps at e
    unfold wpOpsIn
    cases ho : ops[i]? with
    | none => rw [ho] at e; cases e
    | some o =>
      rw [ho] at e
      dsimp only at e ⊢
      obtain ⟨hgd, e⟩ := cond_some e
      rw [wanted_eq h.t hgd]
      cases hw : Region.wanted o (yielded ops ⟨s.f⟩) with
      | false =>
        rw [hw] at e
        simp only [Bool.false_eq_true, if_false]
        exact ⟨fun f _ => wd_fn f, evOps_sound hc hy rest (h.put (Ext.refl E) h.r (.same rfl) o.dst) e⟩
      | true =>
        rw [hw] at e
        simp only [if_true]
        dsimp only [cond_true] at e
        obtain ⟨hk, e⟩ := cond_some e
        cases hyl : isYield s.f o with
        | some la =>
          obtain ⟨l, args⟩ := la
          rw [hyl] at e
          dsimp only at e
          obtain ⟨b, k, args', hE, ra, hnd, hrun⟩ := yield_run (P := P) h hk hyl
          cases hyr : yld l args s.H with
          | none => rw [hyr] at e; cases e
          | some p =>
            obtain ⟨v, H1⟩ := p
            rw [hyr] at e
            obtain ⟨fn, tmps, assign, body, hr, hround⟩ := hy l args s.H v H1 E w b k args' h.r h.g hE ra hyr
            refine upon_of hnd ?_
            rw [hrun _ hr]
            refine ⟨wd_depth, RoundIn.mono (hround _) fun en w2 p => ?_⟩
            obtain ⟨v', F, rfl, x1, R1, b1, rv⟩ := p
            exact wpOpsIn_mono (fun _ _ _ p => p.trans x1 b1) _ _ _ (evOps_sound hc hy rest (h.put x1 R1 rv o.dst) e)
        | none =>
          rw [hyl] at e
          dsimp only at e
          have hρ : ∀ x ∈ o.op.operands, Rel E (ev s.f x) (a.eval x) := fun x hx => ev_rel h (List.all_eq_true.1 hk x (by simpa using hx))
          cases hoc : Orc.f o.op (ev s.f) with
          | some v =>
            rw [hoc] at e
            obtain ⟨v', hr, rv, hnd⟩ := OrcOk.ok (P := P) (G := G) (X := X) (base := base) o (ev s.f) a.eval E v hρ hoc w h.r.fx
            refine upon_of hnd ?_
            rw [hr]
            exact evOps_sound hc hy rest (h.put (Ext.refl E) h.r rv o.dst) e
          | none =>
          rw [hoc] at e
          dsimp only at e
          cases hv : evM P base (ev s.f) o s.H with
          | none => rw [hv] at e; cases e
          | some p =>
            obtain ⟨nx, H1⟩ := p
            rw [hv] at e
            obtain ⟨F, nx', w', hr, x1, R1, b1, rn⟩ := evM_sound (G := G) (X := X) (E := E) (ρ' := a.eval) (w := w) (fun x hx => ev_rel h (List.all_eq_true.1 hk x (by simpa using hx))) h.r hv
            refine upon_of (evM_nodefer (G := G) (X := X) hv) ?_
            rw [hr]
            cases nx with
            | value v =>
              cases nx' with
              | value v' => exact wpOpsIn_mono (fun _ _ _ p => p.trans x1 b1) _ _ _ (evOps_sound hc hy rest (h.put x1 R1 rn o.dst) e)
              | _ => exact rn.elim
            | skip =>
              cases nx' with
              | skip => exact wpOpsIn_mono (fun _ _ _ p => p.trans x1 b1) _ _ _ (evOps_sound hc hy rest (h.put x1 R1 (.same rfl) o.dst) e)
              | _ => exact rn.elim
            | enter f args =>
              cases nx' with
              | enter f' args' =>
                obtain ⟨rfl, ra⟩ := rn
                dsimp only at e
                cases hcl : call f args.toList H1 with
                | none => rw [hcl] at e; cases e
                | some q =>
                  obtain ⟨v, H2⟩ := q
                  rw [hcl] at e
                  refine ⟨wd_depth, CallsIn.mono (calls_wd (hc f args.toList H1 v H2 F w' args'.toList R1 (h.g.mono x1) ra hcl)) fun en w2 p => ?_⟩
                  obtain ⟨v', K, rfl, x2, R2, b2, rv⟩ := p
                  exact wpOpsIn_mono (fun _ _ _ p => p.trans (x1.trans x2) (b1.trans b2)) _ _ _ (evOps_sound hc hy rest (h.put (x1.trans x2) R2 rv o.dst) e)
              | _ => exact rn.elim
            | _ => cases e
/-- rounds of a loop -/
theorem wp_loop_ind {F : Fence} {n : Nat} {c : Code} {Q : Exit → Act → World → Prop} (S : Nat → Act → World → Prop) (h0 : ∀ a w, ¬ S 0 a w) (round : ∀ m a w, S (m + 1) a w → c.wpIn F n P (Exit.then (S m) Q) a w) {m : Nat} {a : Act} {w : World} (h : S m a w) : (Code.loop c).wpIn F n P Q a w := by
  intro b k cs hro hb hr
  have key : ∀ m a w, S m a w → ∃ e a' w', Q e a' w' ∧ ArrivesIn (Machine.fenced P F) P (lone (b.atR a (.code c :: .inLoop c :: k)) cs w) b k cs e a' w' := by
    intro m
    induction m with
    | zero => intro a w h; exact absurd h (h0 a w)
    | succ m ih =>
      intro a w h
      obtain ⟨e, a₁, w₁, hq, harr⟩ := round m a w h b (.inLoop c :: k) cs hro hb hr
      cases e with
      | normal =>
        obtain ⟨e₂, a₂, w₂, hq₂, harr₂⟩ := ih a₁ w₁ hq
        exact ⟨e₂, a₂, w₂, hq₂, .of_steps (StepsIn.trans harr (.one (fenced_calm hb hr rfl) stepR_inLoop)) harr₂⟩
      | exit id => exact ⟨_, a₁, w₁, hq, .pass (x := .inLoop c) rfl (fun _ _ => .inl (by simp)) harr⟩
      | goto l => exact ⟨_, a₁, w₁, hq, .pass (x := .inLoop c) rfl (fun _ _ => .inl (by simp)) harr⟩
      | ret => exact ⟨_, a₁, w₁, hq, .pass (x := .inLoop c) rfl (fun _ _ => .inl (by simp)) harr⟩
      | panic ch => exact ⟨_, a₁, w₁, hq, .pass (x := .inLoop c) rfl (fun _ _ => .inl (by simp)) harr⟩
      | outgrown => exact ⟨_, a₁, w₁, hq, .pass (x := .inLoop c) rfl (fun _ _ => .inl (by simp)) harr⟩
  obtain ⟨e, a', w', hq, harr⟩ := key m a w h
  exact ⟨e, a', w', hq, .of_steps (.one (fenced_calm hb hr rfl) stepR_loop) harr⟩
end
end Go.Proofs.YtnggajehngemmaaGreatDoor
/-
  A run by reckoning: a region that draws its order.
-/
namespace Go.Proofs.YtnggajehngemmaaGreatDoor
open Go Go.RowKit
def all2 (f : Value → Value → Bool) : List Value → List Value → Bool
  | [], [] => true
  | u :: l, v :: m => f u v && all2 f l m
  | _, _ => false
theorem all2_eq {f : Value → Value → Bool} (h : ∀ u v, f u v = true → u = v) : ∀ {l m : List Value}, all2 f l m = true → l = m
  | [], [], _ => rfl
  | u :: l, v :: m, e => by
    simp only [all2, Bool.and_eq_true] at e
    rw [h u v e.1, all2_eq h e.2]
  | [], _ :: _, e => by cases e
  | _ :: _, [], e => by cases e
def veqn : Nat → Value → Value → Bool
  | 0, _, _ => false
  | n + 1, u, v => match u, v with
    | .bool a, .bool b => a == b
    | .int k a, .int k' b => decide (k = k') && decide (a = b)
    | .string a, .string b => decide (a = b)
    | .pointer a, .pointer b => decide (a = b)
    | .slice a l c, .slice a' l' c' => decide (a = a') && Nat.beq l l' && Nat.beq c c'
    | .map a, .map b => decide (a = b)
    | .nilFunc, .nilFunc => true
    | .nilIface, .nilIface => true
    | .iface t a, .iface t' b => Nat.beq t t' && veqn n a b
    | .func (.func f) ⟨x⟩ ⟨y⟩, .func (.func g) ⟨x'⟩ ⟨y'⟩ => Nat.beq f g && all2 (veqn n) x x' && all2 (veqn n) y y'
    | .chan (some i), .chan (some j) => Nat.beq i j
    | .float .f64 i, .float .f64 j => Nat.beq i j
    | .float .f32 i, .float .f32 j => Nat.beq i j
    | .complex .f64 i j, .complex .f64 k l => Nat.beq i k && Nat.beq j l
    | .complex .f32 i j, .complex .f32 k l => Nat.beq i k && Nat.beq j l
    | .func (.via i ⟨[]⟩ j false) ⟨[]⟩ ⟨[]⟩, .func (.via k ⟨[]⟩ l false) ⟨[]⟩ ⟨[]⟩ => Nat.beq i k && Nat.beq j l
    | .agg ⟨x⟩, .agg ⟨y⟩ => all2 (veqn n) x y
    | .tuple ⟨x⟩, .tuple ⟨y⟩ => all2 (veqn n) x y
    | _, _ => false
theorem veqn_eq [Ltr] : ∀ (n : Nat) (u v : Value), veqn n u v = true → u = v
  | 0, _, _, e => by cases e
  | n + 1, u, v, e => by
    unfold veqn at e
    split at e
    · simp at e; rw [e]
    · simp at e; rw [e.1, e.2]
    · simp at e; rw [e]
    · simp at e; rw [e]
    · simp only [Bool.and_eq_true, decide_eq_true_eq] at e
      rw [e.1.1, Nat.eq_of_beq_eq_true e.1.2, Nat.eq_of_beq_eq_true e.2]
    · simp at e; rw [e]
    · rfl
    · rfl
    · simp only [Bool.and_eq_true] at e
      rw [Nat.eq_of_beq_eq_true e.1, veqn_eq n _ _ e.2]
    · simp only [Bool.and_eq_true] at e
      rw [Nat.eq_of_beq_eq_true e.1.1, all2_eq (veqn_eq n) e.1.2, all2_eq (veqn_eq n) e.2]
    · rw [Nat.eq_of_beq_eq_true e]
    · rw [Nat.eq_of_beq_eq_true e]
    · rw [Nat.eq_of_beq_eq_true e]
    · simp only [Bool.and_eq_true] at e
      rw [Nat.eq_of_beq_eq_true e.1, Nat.eq_of_beq_eq_true e.2]
    · simp only [Bool.and_eq_true] at e
      rw [Nat.eq_of_beq_eq_true e.1, Nat.eq_of_beq_eq_true e.2]
    · simp only [Bool.and_eq_true] at e
      rw [Nat.eq_of_beq_eq_true e.1, Nat.eq_of_beq_eq_true e.2]
    · rw [all2_eq (veqn_eq n) e]
    · rw [all2_eq (veqn_eq n) e]
    · cases e
def eqEs : List MapEntry → List MapEntry → Bool
  | [], [] => true
  | a :: l, b :: m => veqn 4 a.key b.key && veqn 4 a.val b.val && Nat.beq a.born b.born && eqEs l m
  | _, _ => false
theorem eqEs_eq [Ltr] : ∀ {l m : List MapEntry}, eqEs l m = true → l = m
  | [], [], _ => rfl
  | a :: l, b :: m, e => by
    simp only [eqEs, Bool.and_eq_true] at e
    obtain ⟨ka, va, ba⟩ := a
    obtain ⟨kb, vb, bb⟩ := b
    dsimp only at e
    rw [eqEs_eq e.2, veqn_eq 4 _ _ e.1.1.1, veqn_eq 4 _ _ e.1.1.2, Nat.eq_of_beq_eq_true e.1.2]
  | [], _ :: _, e => by cases e
  | _ :: _, [], e => by cases e
def eqOb : Ob → Ob → Bool
  | .gone, .gone => true
  | .ro l, .ro m => all2 (veqn 4) l m
  | .row l t, .row m u => all2 (veqn 4) l m && Nat.beq t u
  | .own l t s, .own m u r => all2 (veqn 4) l m && Nat.beq t u && Nat.beq s r
  | .mp l c, .mp m d => eqEs l m && Nat.beq c d
  | .opq i, .opq j => Nat.beq i j
  | .tok i, .tok j => Nat.beq i j
  | .it s p, .it t q => decide (s = t) && Nat.beq p q
  | _, _ => false
theorem eqOb_eq [Ltr] {a b : Ob} (e : eqOb a b = true) : a = b := by
  unfold eqOb at e
  split at e
  · rfl
  · rw [all2_eq (veqn_eq 4) e]
  · simp only [Bool.and_eq_true] at e
    rw [all2_eq (veqn_eq 4) e.1, Nat.eq_of_beq_eq_true e.2]
  · simp only [Bool.and_eq_true] at e
    rw [all2_eq (veqn_eq 4) e.1.1, Nat.eq_of_beq_eq_true e.1.2, Nat.eq_of_beq_eq_true e.2]
  · simp only [Bool.and_eq_true] at e
    rw [eqEs_eq e.1, Nat.eq_of_beq_eq_true e.2]
  · rw [Nat.eq_of_beq_eq_true e]
  · rw [Nat.eq_of_beq_eq_true e]
  · simp only [Bool.and_eq_true, decide_eq_true_eq] at e
    rw [e.1, Nat.eq_of_beq_eq_true e.2]
  · cases e
def eqH : List (Nat × Ob) → List (Nat × Ob) → Bool
  | [], [] => true
  | (i, a) :: l, (j, b) :: m => Nat.beq i j && eqOb a b && eqH l m
  | _, _ => false
theorem eqH_eq [Ltr] : ∀ {l m : List (Nat × Ob)}, eqH l m = true → l = m
  | [], [], _ => rfl
  | (i, a) :: l, (j, b) :: m, e => by
    simp only [eqH, Bool.and_eq_true] at e
    rw [eqH_eq e.2, eqOb_eq e.1.2, Nat.eq_of_beq_eq_true e.1.1]
  | [], _ :: _, e => by cases e
  | _ :: _, [], e => by cases e
/-- two memories of names are the same -/
def eqW (K L : RW) : Bool := Nat.beq K.n L.n && eqH K.h L.h
theorem eqW_eq [Ltr] {K L : RW} (e : eqW K L = true) : K = L := by
  unfold eqW at e
  simp only [Bool.and_eq_true] at e
  obtain ⟨n, h⟩ := K
  obtain ⟨m, g⟩ := L
  rw [show n = m from Nat.eq_of_beq_eq_true e.1, show h = g from eqH_eq e.2]
def bOn (o : Oper) : List Nat := (o.after.toList.filter fun e => Region.binds .any e).map (·.on)
def clos (T : List Nat) (l : List Nat) : Nat := l.foldl (fun m e => m ||| (1 <<< e ||| T.getD e 0)) 0
def mkT : List Oper → List Nat → List Nat
  | [], T => T
  | o :: os, T => mkT os (T ++ [clos T (bOn o)])
def dstIs (t : Nat) (o : Oper) : Bool :=
  match o.dst with
  | some d => Nat.beq d t
  | none => false
/-- what is behind op i (its mask m): all writers of what it reads, its guard -/
def okReads (G : Nat) (L : List Oper) (T : List Nat) (i m : Nat) (o : Oper) : Bool :=
  o.op.operands.toList.all (fun x => okC G x && match x with
    | .tmp t => (L.zipIdx.all fun p => !dstIs t p.1 || m.testBit p.2) || (L.zipIdx.all fun p => !dstIs t p.1 || (T.getD p.2 0).testBit i)
    | _ => true) &&
  match o.guard with
  | some (j, _) => m.testBit j && Nat.blt j L.length && (match (L[j]?).bind (·.dst) with
    | some t => L.zipIdx.all fun p => !dstIs t p.1 || m.testBit p.2
    | none => true)
  | none => true
def static (G : Nat) (ops : Array Oper) (T : List Nat) : Bool :=
  Nat.beq T.length ops.size && ops.toList.zipIdx.all fun p => Nat.beq (T.getD p.2 0) (clos T (bOn p.1)) && (bOn p.1).all (fun e => Nat.blt e p.2) && okReads G ops.toList T p.2 (T.getD p.2 0) p.1
def stepAt [Orc] (P : Program) (base : Nat) (call : Caller) (f : List Value) (o : Oper) (K : RW) : Option (Value × RW) :=
  match Orc.f o.op (ev f) with
  | some v => some (v, K)
  | none => match evM P base (ev f) o K with
  | some (.value v, H1) => some (v, H1)
  | some (.skip, H1) => some (undef, H1)
  | some (.enter g args, H1) => call g args.toList H1
  | _ => none
def dstOk (o : Oper) (v : Value) (f : List Value) : Bool :=
  match o.dst with
  | some d => veqn 4 v (slot f d)
  | none => true
/-- an operation as it went in the text's order: the frame and the memory ahead of it, what it yields, memory behind it, how many have changed memory before it, is it wanted? -/
structure En where
  f : List Value
  K : RW
  v : Value
  K1 : RW
  s : Nat
  w : Bool
  ch : Bool
/-- the operations in the text's order: their entries, those that change memory, memory ahead of each of these and behind the last, the frame behind all -/
def tr [Orc] (P : Program) (base : Nat) (call : Caller) (ops : Array Oper) : List (Oper × Nat) → List Value → RW → Nat → Option (List En × List Nat × List RW × List Value)
  | [], f, K, _ => some ([], [], [K], f)
  | (o, i) :: l, f, K, s => bif Region.wanted o (yielded ops ⟨f⟩) then match stepAt P base call f o K with
      | some (v, K1) => bif quiet P o.op || eqW K1 K then match tr P base call ops l (pt o.dst v f) K s with
          | some (es, eff, Ks, g) => some (⟨f, K, v, K, s, true, false⟩ :: es, eff, Ks, g)
          | none => none
        else match tr P base call ops l (pt o.dst v f) K1 (s + 1) with
          | some (es, eff, Ks, g) => some (⟨f, K, v, K1, s, true, true⟩ :: es, i :: eff, K :: Ks, g)
          | none => none
      | none => none
    else match tr P base call ops l (pt o.dst undef f) K s with
      | some (es, eff, Ks, g) => some (⟨f, K, undef, K, s, false, false⟩ :: es, eff, Ks, g)
      | none => none
def chk1 [Orc] (P : Program) (base : Nat) (call : Caller) (T eff : List Nat) (f : List Value) (i : Nat) (o : Oper) (en : En) (s : Nat) (K : RW) : Bool :=
  (eff.drop s).any (fun p => (T.getD i 0).testBit p) || (eff.take s).any (fun p => Nat.beq p i || (T.getD p 0).testBit i) ||
  (bif en.w then bif Nat.beq en.s s then dstOk o en.v f && (en.ch || !eff.elem i) else bif memfree o.op then dstOk o en.v f && !eff.elem i else match stepAt P base call en.f o K with
      | some (v, K1) => dstOk o v f && !eff.elem i && (quiet P o.op || eqW K1 K)
      | none => false
    else dstOk o undef f && !eff.elem i)
def ndp : List Nat → Bool
  | [] => true
  | a :: l => !l.elem a && ndp l
theorem ndp_nodup : ∀ {l : List Nat}, ndp l = true → l.Nodup
  | [], _ => List.nodup_nil
  | a :: l, h => by
    simp only [ndp, Bool.and_eq_true, Bool.not_eq_true'] at h
    exact List.nodup_cons.2 ⟨fun hm => (by rw [List.elem_eq_true_of_mem hm] at h; cases h.1), ndp_nodup h.2⟩
def chkAll [Orc] (P : Program) (base : Nat) (call : Caller) (T eff : List Nat) (f : List Value) (Ks : List RW) : List (Oper × Nat) → List En → Bool
  | [], [] => true
  | (o, i) :: l, en :: es => (Ks.zipIdx.all fun q => chk1 P base call T eff f i o en q.2 q.1) && chkAll P base call T eff f Ks l es
  | _, _ => false
def lastK : List RW → Option RW
  | [] => none
  | [K] => some K
  | _ :: l => lastK l
def drawEv [Orc] (P : Program) (G base : Nat) (call : Caller) (ops : Array Oper) (s : St) : Option St :=
  match tr P base call ops ops.toList.zipIdx s.f s.H 0 with
  | none => none
  | some (es, eff, Ks, f) => bif static G ops (mkT ops.toList []) && chkAll P base call (mkT ops.toList []) eff f Ks ops.toList.zipIdx es && ndp eff && ops.toList.all (fun o => gdOk ops o f) && eff.all (fun p => Nat.blt p ops.size) then match lastK Ks with
      | some K => some ⟨f, K, s.ds⟩
      | none => none
    else none
end Go.Proofs.YtnggajehngemmaaGreatDoor
