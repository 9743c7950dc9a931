/-
  A run by reckoning: operations that leave memory as it is.
-/
import Derived.Test.YtkhmbphcjacgnaaGreatDoorEvD
namespace Go.Proofs.YtkhmbphcjacgnaaGreatDoor
open Go Go.RowKit
section
variable {P : Program} {base : Nat} {α β γ : Type}
theorem cond_some {b : Bool} {x : Option α} {y : α} (h : (bif b then x else none) = some y) : b = true ∧ x = some y := by
  cases b with
  | true => exact ⟨rfl, h⟩
  | false => cases h
def RO (P : Program) (base : Nat) (s : Sem α) : Prop := ∀ H r H1, sv P base s H = some (r, H1) → H1 = H
theorem RO.of {s : Sem α} (h : Mless P base s) : RO P base s := fun H r H1 e => (h H r H1 e).2
theorem RO.pure [Ltr] (a : α) : RO P base (Pure.pure a : Sem α) := RO.of (Mless.pure a)
theorem RO.never [Ltr] {s : Sem α} (h : ∀ H, sv P base s H = none) : RO P base s := RO.of (Mless.never h)
theorem RO.bind [Ltr] {s : Sem α} {f : α → Sem γ} (h : RO P base s) (k : ∀ a, RO P base (f a)) : RO P base (s >>= f) := by
  intro H r H1 e
  have e2 : sv P base (s.bind f) H = some (r, H1) := e
  rw [sv_bind] at e2
  cases hs : sv P base s H with
  | none => rw [hs] at e2; cases e2
  | some x =>
    obtain ⟨a, H2⟩ := x
    rw [hs] at e2
    rw [k a H2 r H1 e2, h H a H2 hs]
theorem RO.load (a : Addr) : RO P base (Go.load a) := by
  intro H r H1 e
  simp only [Go.load, sv] at e
  cases hc : H.cell a with
  | none => rw [hc] at e; cases e
  | some v => rw [hc] at e; exact (Prod.mk.inj (Option.some.inj e)).2.symm
theorem RO.program : RO P base Go.program := fun _ _ _ e => (Prod.mk.inj (Option.some.inj e)).2.symm
theorem RO.typeInfo [Ltr] (t : TypeId) : RO P base (Go.typeInfo t) := RO.bind RO.program fun p => by
  cases p.info? t with
  | none => exact RO.never fun _ => rfl
  | some i => exact RO.pure i
theorem RO.underlying [Ltr] (t : TypeId) : RO P base (Go.underlying t) := RO.bind RO.program fun p => by
  cases p.underlying t with
  | none => exact RO.never fun _ => rfl
  | some i => exact RO.pure i
theorem RO.sizeOf [Ltr] (t : TypeId) : RO P base (Go.sizeOf t) := RO.bind (RO.typeInfo t) fun _ => RO.pure _
theorem RO.isAgg [Ltr] (t : TypeId) : RO P base (Go.isAgg t) := RO.bind (RO.underlying t) fun d => by cases d <;> exact RO.pure _
theorem RO.loadCellsFrom [Ltr] (a : Addr) : ∀ (n i : Nat) (x : Array Value), RO P base (Go.loadCellsFrom a i n x)
  | 0, _, _ => RO.pure _
  | n + 1, i, x => RO.bind (RO.load _) fun v => RO.loadCellsFrom a n (i + 1) (x.push v)
theorem RO.loadVar [Ltr] (t : TypeId) (a : Addr) : RO P base (Go.loadVar t a) := RO.bind (RO.isAgg t) fun b => by
  cases b with
  | true => exact RO.bind (RO.sizeOf t) fun n => RO.bind (RO.loadCellsFrom a n 0 #[]) fun _ => RO.pure _
  | false => exact RO.load a
theorem RO.sureAddr [Ltr] (v : Value) : RO P base (Instr.sureAddr v) := by
  cases v with
  | pointer a => cases a with
    | none => exact RO.never fun _ => rfl
    | some a => exact RO.pure a
  | _ => exact RO.never fun _ => rfl
theorem RO.part [Ltr] (t : TypeId) (c : Array Value) (o : Nat) : RO P base (Go.part t c o) := RO.bind (RO.isAgg t) fun b => by
  cases b with
  | true => exact RO.bind (RO.sizeOf t) fun n => RO.pure _
  | false =>
    show RO P base (match c[o]? with | some v => Pure.pure v | none => Go.stuck _)
    cases c[o]? with
    | none => exact RO.never fun _ => rfl
    | some v => exact RO.pure v
theorem RO.field [Ltr] (t : TypeId) (v : Value) (f : Nat) : RO P base (Instr.field t v f) := RO.bind (RO.underlying t) fun d => by
  cases d with
  | struct fs =>
    dsimp only
    cases fs[f]? with
    | none => exact RO.never fun _ => rfl
    | some x => exact RO.bind (by cases v <;> first | exact RO.pure _ | exact RO.never fun _ => rfl) fun _ => RO.part _ _ _
  | _ => exact RO.never fun _ => rfl
theorem RO.extract [Ltr] (v : Value) (i : Nat) : RO P base (Instr.extract v i) := by
  cases v with
  | tuple x =>
    unfold Instr.extract
    dsimp only
    cases x[i]? with
    | none => exact RO.never fun _ => rfl
    | some v => exact RO.pure v
  | _ => exact RO.never fun _ => rfl
theorem RO.orPanic [Ltr] {c : Prop} [Decidable c] {u : Unsupported} {k : IntKind} {x y : Int} {code : BoundsCode} : RO P base (if c then Go.unsupported (α := α) u else boundsPanic k x y code) := by
  split
  · exact RO.never fun _ => rfl
  · exact RO.never sv_boundsPanic
theorem RO.indexAt [Ltr] (t : TypeId) (x i : Value) : RO P base (Instr.indexAt t x i) := RO.bind (RO.of (Mless.asIntOf i)) fun y => by
  obtain ⟨k, n⟩ := y
  refine RO.bind (RO.underlying t) fun d => ?_
  have tail : ∀ (b : Option Addr) (len : Nat) (el : TypeId) (s : Addr → Sem Value) (r : Sem Value), (∀ a, RO P base (s a)) → RO P base r → RO P base (match b with | some a => s a | none => r) := by
    intro b len el s r h1 h2
    cases b with
    | none => exact h2
    | some a => exact h1 a
  have mid : ∀ {a : Addr} {len : Nat} {el : TypeId} {s : Sem Value}, RO P base s → RO P base (if 0 ≤ n ∧ n < (len : Int) then (Go.sizeOf el >>= fun z => Pure.pure (Value.pointer (some (a.add (n.toNat * z))))) else s) := by
    intro a len el s hs
    split
    · exact RO.bind (RO.sizeOf el) fun _ => RO.pure _
    · exact hs
  cases d with
  | array len el => exact RO.bind (RO.sureAddr x) fun a => RO.bind (RO.pure _) fun q => by obtain ⟨b, l, el'⟩ := q; exact RO.bind (RO.underlying t) fun d => tail b l el' _ _ (fun a => mid RO.orPanic) (RO.never sv_boundsPanic)
  | slice el =>
    cases x with
    | slice b len c => exact RO.bind (RO.pure _) fun q => by obtain ⟨b, l, el'⟩ := q; exact RO.bind (RO.underlying t) fun d => tail b l el' _ _ (fun a => mid RO.orPanic) (RO.never sv_boundsPanic)
    | _ => exact RO.never fun _ => rfl
  | _ => exact RO.never fun _ => rfl
theorem RO.index [Ltr] (t : TypeId) (x i : Value) (hf : flat x = false) : RO P base (Instr.index t x i) := RO.bind (RO.of (Mless.asIntOf i)) fun y => by
  obtain ⟨k, n⟩ := y
  refine RO.bind (RO.underlying t) fun d => ?_
  cases d with
  | array len el =>
    cases x with
    | agg cs =>
      dsimp only
      split
      · exact RO.bind (RO.sizeOf el) fun _ => RO.part _ _ _
      · exact RO.never sv_boundsPanic
    | _ => exact RO.never fun _ => rfl
  | string =>
    cases x with
    | string s => cases hf
    | _ => exact RO.never fun _ => rfl
  | _ => cases x <;> exact RO.never fun _ => rfl
theorem RO.fieldAt [Ltr] {t : TypeId} {v : Value} {f : Nat} (hk : fokAt P t f = true) : RO P base (Instr.fieldAt t v f) := by
  unfold fokAt at hk
  cases hu : svp P (Go.underlying t) with
  | none => rw [hu] at hk; cases hk
  | some d =>
    intro H r H1 e
    have e2 : sv P base (Sem.bind (Go.underlying t) _) H = some (r, H1) := e
    rw [sv_bind, svp_sv H hu] at e2
    rw [hu] at hk
    cases d with
    | struct fs =>
      dsimp only at hk
      cases hf : fs[f]? with
      | none => rw [hf] at hk; cases hk
      | some fd =>
        rw [hf] at hk
        simp only [Option.bind_some, hf] at e2
        refine (RO.bind (P := P) (base := base) (RO.sureAddr v) (fun a => ?_)) H r H1 e2
        refine RO.bind ?_ fun _ => RO.pure _
        cases hs : svp P (Go.sizeOf fd.type) with
        | none => simp [hs] at hk
        | some n =>
          have hn : n ≠ 0 := by simpa [hs] using hk
          intro H r H1 e
          have e2 : sv P base (Sem.bind (Go.sizeOf fd.type) _) H = some (r, H1) := e
          rw [sv_bind, svp_sv H hs] at e2
          simp only [Option.bind_some, hn, if_false] at e2
          exact (RO.pure _) H r H1 e2
    | _ => cases hk
theorem RO.cut [Ltr] {a : Addr} {el : TypeId} {b : Bool} {n c : Nat} {lo hi mx : Option Value} :
    RO P base (do let x ← Instr.sliceBounds b n c lo hi mx; match x with | (l, h, m) => do let size ← Go.sizeOf el; Pure.pure (Value.slice (some (if m = l then a else a.add (l * size))) (h - l) (m - l))) :=
  RO.bind (RO.of (Mless.sliceBounds b n c lo hi mx)) fun x => by obtain ⟨l, h, m⟩ := x; exact RO.bind (RO.sizeOf el) fun _ => RO.pure _
theorem RO.slice [Ltr] (t : TypeId) (v : Value) (lo hi mx : Option Value) (hf : flat v = false) : RO P base (Instr.slice t v lo hi mx) := RO.bind (RO.underlying t) fun d => by
  cases d with
  | slice el =>
    cases v with
    | slice a n c => exact RO.bind (RO.of (Mless.sliceBounds true n c lo hi mx)) fun x => by obtain ⟨l, h, m⟩ := x; exact RO.bind (RO.sizeOf el) fun _ => RO.pure _
    | _ => exact RO.never fun _ => rfl
  | pointer arr =>
    refine RO.bind ?_ fun a => RO.bind (RO.underlying arr) fun d => by
      cases d with
      | array n el => exact RO.cut
      | _ => exact RO.never fun _ => rfl
    cases v with
    | pointer a => cases a with
      | none => exact RO.never fun _ => rfl
      | some a => exact RO.pure a
    | _ => exact RO.never fun _ => rfl
  | string =>
    cases v with
    | string s => cases hf
    | _ => exact RO.never fun _ => rfl
  | _ => exact RO.never fun _ => rfl
theorem RO.sliceAt [Ltr] (t : TypeId) (v : Value) (lo hi mx : Option Value) (hf : flat v = false) : RO P base (Instr.sliceAt t v lo hi mx) := RO.bind (RO.underlying t) fun d => by
  cases d with
  | array n el => exact RO.bind (RO.sureAddr v) fun a => RO.cut
  | _ => exact RO.slice t v lo hi mx hf
/-- the kinds that leave memory as it is -/
def quiet (P : Program) : Op → Bool
  | .move _ | .assign _ | .pick .. | .load .. | .field .. | .extract .. | .indexAddr .. | .fieldAddr .. | .build .. | .nilCheck _ | .makeFunc .. | .makeInterface .. | .slice .. | .binOp .. | .unOp .. | .index .. | .lookup .. => true
  | .convert _ d _ => match svp P (Go.underlying d) with
    | some (.slice _) => false
    | _ => true
  | .call c => match c.callee with
    | .builtin .len | .builtin .min | .builtin .max => true
    | _ => false
  | _ => false
theorem flatc_H {ρ : Operand → Value} {o : Oper} {H H1 : RW} {nx : Next} (e : flatc P ρ o H = some (nx, H1)) : H1 = H ∧ ∃ v, nx = .value v := by
  unfold flatc at e
  cases hc : (o.op.operands.toList.all fun x => fl2 (ρ x)) with
  | false => rw [hc] at e; cases e
  | true =>
    rw [hc] at e
    dsimp only [cond_true] at e
    split at e
    · rename_i v _
      cases hf : flat v with
      | false => rw [hf] at e; cases e
      | true => rw [hf] at e; obtain ⟨rfl, rfl⟩ := Prod.mk.inj (Option.some.inj e); exact ⟨rfl, v, rfl⟩
    · cases e
theorem sv_value [Ltr] {s : Sem Value} {H H1 : RW} {nx : Next} (h : RO P base s) (e : sv P base (do Pure.pure (Next.value (← s))) H = some (nx, H1)) : H1 = H ∧ ∃ v, nx = .value v := by
  have e2 : sv P base (Sem.bind s _) H = some (nx, H1) := e
  rw [sv_bind] at e2
  cases hs : sv P base s H with
  | none => rw [hs] at e2; cases e2
  | some x =>
    obtain ⟨a, H2⟩ := x
    rw [hs] at e2
    obtain ⟨rfl, rfl⟩ := Prod.mk.inj (Option.some.inj e2)
    exact ⟨h H a H2 hs, a, rfl⟩
theorem quiet_H [Ltr] {ρ : Operand → Value} {o : Oper} {H H1 : RW} {nx : Next} (hq : quiet P o.op = true) (e : evAll P base ρ o H = some (nx, H1)) : H1 = H ∧ ∃ v, nx = .value v := by
  have val : ∀ {v : Value}, some (Next.value v, H) = some (nx, H1) → H1 = H ∧ ∃ v, nx = .value v := by
    intro v e
    obtain ⟨rfl, rfl⟩ := Prod.mk.inj (Option.some.inj e)
    exact ⟨rfl, v, rfl⟩
  unfold evAll at e
  cases h0 : evOp P base ρ o H with
  | some r =>
    rw [h0] at e
    obtain rfl := Option.some.inj e
    unfold evOp at h0
    cases ho : o.op with
    | move x => simp only [ho] at h0; exact val h0
    | assign x => simp only [ho] at h0; exact val h0
    | pick c a b =>
      simp only [ho] at h0
      split at h0
      · exact val h0
      · cases h0
    | load t x => simp only [ho] at h0; simp only [execOp, ho] at h0; exact sv_value (RO.bind (RO.sureAddr _) fun a => RO.loadVar t a) h0
    | field t x f => simp only [ho] at h0; simp only [execOp, ho] at h0; exact sv_value (RO.field _ _ _) h0
    | extract x i => simp only [ho] at h0; simp only [execOp, ho] at h0; exact sv_value (RO.extract _ _) h0
    | indexAddr t x y => simp only [ho] at h0; simp only [execOp, ho] at h0; exact sv_value (RO.indexAt _ _ _) h0
    | fieldAddr t x f =>
      simp only [ho] at h0
      cases hz : fokAt P t f with
      | false => rw [hz] at h0; cases h0
      | true => rw [hz] at h0; simp only [execOp, ho] at h0; exact sv_value (RO.fieldAt hz) h0
    | build t parts =>
      simp only [ho] at h0
      obtain ⟨_, h0⟩ := cond_some h0
      split at h0
      · exact val h0
      · cases h0
    | nilCheck x =>
      simp only [ho] at h0
      split at h0 <;> first | exact val h0 | cases h0
    | makeFunc f x y =>
      simp only [ho] at h0
      split at h0 <;> first | (rename_i h; cases h; done) | exact val h0 | cases h0
    | makeInterface t x =>
      simp only [ho] at h0
      split at h0 <;> first | exact val h0 | cases h0
    | slice t x lo hi mx =>
      simp only [ho] at h0
      cases hf : flat (ρ x) with
      | true => rw [hf] at h0; exact flatc_H h0
      | false =>
        rw [hf] at h0
        dsimp only [cond_false] at h0
        obtain ⟨_, h0⟩ := cond_some h0
        cases hs : sv P base (Instr.sliceAt t (ρ x) (lo.map ρ) (hi.map ρ) (mx.map ρ)) H with
        | none => rw [hs] at h0; cases h0
        | some p =>
          obtain ⟨v, H2⟩ := p
          rw [hs] at h0
          obtain ⟨_, h0⟩ := cond_some h0
          obtain ⟨rfl, rfl⟩ := Prod.mk.inj (Option.some.inj h0)
          exact ⟨RO.sliceAt t (ρ x) _ _ _ hf H v H2 hs, v, rfl⟩
    | binOp op t x y t' =>
      simp only [ho] at h0
      cases hf : (fl2 (ρ x) && fl2 (ρ y)) with
      | true => rw [hf] at h0; exact flatc_H h0
      | false =>
        rw [hf] at h0
        dsimp only [cond_false] at h0
        split at h0
        · exact val h0
        · cases h0
    | unOp op t x => simp only [ho] at h0; exact flatc_H h0
    | convert s d x => simp only [ho] at h0; exact flatc_H h0
    | index t x y =>
      simp only [ho] at h0
      cases hf : flat (ρ x) with
      | true => rw [hf] at h0; exact flatc_H h0
      | false => rw [hf] at h0; simp only [execOp, ho] at h0; exact sv_value (RO.index _ _ _ hf) h0
    | call c =>
      simp only [ho] at h0
      rw [ho] at hq
      cases hc : c.callee with
      | builtin b =>
        simp only [hc] at h0
        simp only [quiet, hc] at hq
        cases b with
        | len =>
          dsimp only at h0
          split at h0
          · split at h0
            · exact val h0
            · exact flatc_H h0
          · cases h0
        | min => exact flatc_H h0
        | max => exact flatc_H h0
        | _ => cases hq
      | _ => simp [quiet, hc] at hq
    | lookup t m k ok => simp only [ho] at h0; cases h0
    | _ => rw [ho] at hq; cases hq
  | none =>
    rw [h0] at e
    dsimp only at e
    cases ho : o.op with
    | convert s d x =>
      simp only [ho] at e
      cases hb : b2s P H s d (ρ x) with
      | some v => rw [hb] at e; exact val e
      | none =>
        rw [hb] at e
        obtain ⟨_, e⟩ := cond_some e
        cases hs : s2b P H s d (ρ x) with
        | none => rw [hs] at e; cases e
        | some p =>
          exfalso
          unfold s2b at hs
          split at hs
          · rename_i hd _
            rw [ho] at hq
            simp only [quiet] at hq
            rw [hd] at hq
            cases hq
          · cases hs
    | slice t x lo hi mx =>
      simp only [ho] at e
      cases hc : (lo.toList ++ hi.toList ++ mx.toList).all (fun y => flat (ρ y)) with
      | false => rw [hc] at e; cases e
      | true =>
        rw [hc] at e
        dsimp only [cond_true] at e
        split at e
        · exact val e
        · cases e
    | makeSlice t x y => rw [ho] at hq; cases hq
    | makeMap t r => rw [ho] at hq; cases hq
    | range t x => rw [ho] at hq; cases hq
    | next x b => rw [ho] at hq; cases hq
    | mapUpdate t m k v => rw [ho] at hq; cases hq
    | lookup t m k ok =>
      simp only [ho] at e
      obtain ⟨_, e⟩ := cond_some e
      split at e
      · exact val e
      · cases e
    | call c =>
      simp only [ho] at e
      rw [ho] at hq
      split at e
      · rename_i hc _ _; simp [quiet, hc] at hq
      · rename_i hc _ _; simp [quiet, hc] at hq
      · cases e
    | _ => simp only [ho] at e; cases e
end
end Go.Proofs.YtkhmbphcjacgnaaGreatDoor
