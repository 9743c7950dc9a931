/-
  A run by reckoning: the commonest operations by a shorter way.
-/
import Derived.Test.YtkhmbphcjacgnaaGreatDoorEvK
namespace Go.Proofs.YtkhmbphcjacgnaaGreatDoor
open Go Go.RowKit
def binX (op : BinOp) (u v : Value) : Option Value :=
  match u, v with
  | .int k a, .int k' b => bif decide (k = k') then match op with
      | .add => some (.int k (k.wrap (a + b)))
      | .sub => some (.int k (k.wrap (a - b)))
      | .mul => some (.int k (k.wrap (a * b)))
      | .quo => bif decide (b = 0) then none else some (.int k (k.wrap (a.tdiv b)))
      | .rem => bif decide (b = 0) then none else some (.int k (a.tmod b))
      | .eql => some (.bool (a == b))
      | .neq => some (.bool (a != b))
      | .lss => some (.bool (decide (a < b)))
      | .leq => some (.bool (decide (a ≤ b)))
      | .gtr => some (.bool (decide (a > b)))
      | .geq => some (.bool (decide (a ≥ b)))
      | _ => none
    else none
  | _, _ => none
def okO (G : Nat) (o : Oper) : Bool :=
  match o.op with
  | .move x => okC G x
  | .assign x => okC G x
  | .binOp _ _ x y _ => okC G x && okC G y
  | .load _ x => okC G x
  | .extract x _ => okC G x
  | .fieldAddr _ x _ => okC G x
  | .indexAddr _ x y => okC G x && okC G y
  | op => op.operands.toList.all (okC G)
def slowX [Orc] (P : Program) (base : Nat) (f : List Value) (o : Oper) (H : RW) : Option (Next × RW) := evM P base (ev f) o H
def pickX (c a b : Value) (H : RW) : Option (Next × RW) :=
  match c with
  | .bool t => some (.value (bif t then a else b), H)
  | _ => none
def extX (x : Value) (i : Nat) (H : RW) : Option (Next × RW) :=
  match x with
  | .tuple vs => match vs[i]? with
    | some v => some (.value v, H)
    | none => none
  | _ => none
def loadX (P : Program) (t : TypeId) (x : Value) (H : RW) : Option Value :=
  match svp P (Go.isAgg t), x with
  | some false, .pointer (some a) => H.cell a
  | _, _ => none
def indX (P : Program) (t : TypeId) (x y : Value) : Option Value :=
  match svp P (Go.underlying t), x, y with
  | some (.slice el), .slice (some a) n _, .int _ i => match svp P (Go.sizeOf el) with
    | some sz => bif decide (0 ≤ i) && decide (i < n) then some (.pointer (some (a.add (i.toNat * sz)))) else none
    | none => none
  | _, _, _ => none
def evX [Orc] (P : Program) (base : Nat) (f : List Value) (o : Oper) (H : RW) : Option (Next × RW) :=
  match o.op with
  | .move x => some (.value (ev f x), H)
  | .assign x => some (.value (ev f x), H)
  | .binOp op _ x y _ => match binX op (ev f x) (ev f y) with
    | some v => some (.value v, H)
    | none => slowX P base f o H
  | .pick c a b => pickX (ev f c) (ev f a) (ev f b) H
  | .extract x i => extX (ev f x) i H
  | .load t x => match loadX P t (ev f x) H with
    | some v => some (.value v, H)
    | none => slowX P base f o H
  | .indexAddr t x y => match indX P t (ev f x) (ev f y) with
    | some v => some (.value v, H)
    | none => slowX P base f o H
  | _ => slowX P base f o H
section
variable {P : Program} {G base : Nat}
theorem okO_all {o : Oper} (h : okO G o = true) : o.op.operands.toList.all (okC G) = true := by
  unfold okO at h
  cases ho : o.op <;> simp only [ho] at h <;> first | exact h | simp [Op.operands, h] | (simp only [Bool.and_eq_true] at h; simp [Op.operands, h.1, h.2])
theorem binX_flat [Ltr] {op : BinOp} {u v r : Value} (h : binX op u v = some r) : flat u = true ∧ flat v = true ∧ flat r = true := by
  unfold binX at h
  split at h
  · refine ⟨rfl, rfl, ?_⟩
    have hh := cond_some h
    clear h
    obtain ⟨_, h⟩ := hh
    split at h <;> first | (obtain rfl := Option.some.inj h; rfl) | (cases h; done) | skip
    all_goals
      rw [Bool.cond_eq_ite] at h
      split at h
      · cases h
      · obtain rfl := Option.some.inj h; rfl
  · cases h
theorem binX_run [Ltr] {ρ : Operand → Value} {o : Oper} {op : BinOp} {t t' : TypeId} {x y : Operand} {r : Value} (ho : o.op = .binOp op t x y t') (h : binX op (ρ x) (ρ y) = some r) : svp P (execOp ρ o) = some (.value r) := by
  unfold binX at h
  split at h
  · rename_i k a k' b hx hy
    have hh := cond_some h
    clear h
    obtain ⟨hk, h⟩ := hh
    obtain rfl := of_decide_eq_true hk
    have go : ∀ {s : Sem Value} {u : Value}, svp P s = some u → svp P (do Pure.pure (Next.value (← s)) : Sem Next) = some (.value u) := fun {s u} hs => by
      show svp P (Sem.bind s _) = _
      rw [svp_bind hs]
      rfl
    simp only [execOp, ho, hx, hy]
    refine go ?_
    cases op with
    | add =>
      obtain rfl := Option.some.inj h
      show svp P (if k ≠ k then Go.stuck _ else _) = _
      rw [if_neg (by simp)]
      rfl
    | sub =>
      obtain rfl := Option.some.inj h
      show svp P (if k ≠ k then Go.stuck _ else _) = _
      rw [if_neg (by simp)]
      rfl
    | mul =>
      obtain rfl := Option.some.inj h
      show svp P (if k ≠ k then Go.stuck _ else _) = _
      rw [if_neg (by simp)]
      rfl
    | eql =>
      obtain rfl := Option.some.inj h
      show svp P (if k ≠ k then Go.stuck _ else _) = _
      rw [if_neg (by simp)]
      rfl
    | neq =>
      obtain rfl := Option.some.inj h
      show svp P (if k ≠ k then Go.stuck _ else _) = _
      rw [if_neg (by simp)]
      rfl
    | lss =>
      obtain rfl := Option.some.inj h
      show svp P (if k ≠ k then Go.stuck _ else _) = _
      rw [if_neg (by simp)]
      rfl
    | leq =>
      obtain rfl := Option.some.inj h
      show svp P (if k ≠ k then Go.stuck _ else _) = _
      rw [if_neg (by simp)]
      rfl
    | gtr =>
      obtain rfl := Option.some.inj h
      show svp P (if k ≠ k then Go.stuck _ else _) = _
      rw [if_neg (by simp)]
      rfl
    | geq =>
      obtain rfl := Option.some.inj h
      show svp P (if k ≠ k then Go.stuck _ else _) = _
      rw [if_neg (by simp)]
      rfl
    | quo =>
      cases hb : decide (b = 0) with
      | true => simp only [hb, cond_true] at h; cases h
      | false =>
        simp only [hb, cond_false] at h
        obtain rfl := Option.some.inj h
        show svp P (if k ≠ k then Go.stuck _ else _) = _
        rw [if_neg (by simp)]
        show svp P (if b = 0 then _ else _) = _
        rw [if_neg (of_decide_eq_false hb)]
        rfl
    | rem =>
      cases hb : decide (b = 0) with
      | true => simp only [hb, cond_true] at h; cases h
      | false =>
        simp only [hb, cond_false] at h
        obtain rfl := Option.some.inj h
        show svp P (if k ≠ k then Go.stuck _ else _) = _
        rw [if_neg (by simp)]
        show svp P (if b = 0 then _ else _) = _
        rw [if_neg (of_decide_eq_false hb)]
        rfl
    | _ => cases h
  · cases h
theorem evX_eq [Ltr] [Orc] {f : List Value} {o : Oper} {H : RW} {r : Next × RW} (h : evX P base f o H = some r) : evM P base (ev f) o H = some r := by
  unfold evX slowX at h
  cases ho : o.op with
  | move x => simp only [ho] at h; refine evM_of ?_; unfold evAll evOp; simp only [ho]; exact h
  | assign x => simp only [ho] at h; refine evM_of ?_; unfold evAll evOp; simp only [ho]; exact h
  | binOp op t x y t' =>
    simp only [ho] at h
    cases hb : binX op (ev f x) (ev f y) with
    | none => rw [hb] at h; exact h
    | some v =>
      rw [hb] at h
      obtain rfl := Option.some.inj h
      obtain ⟨h1, h2, h3⟩ := binX_flat hb
      have f2 : ∀ {u : Value}, flat u = true → fl2 u = true := by
        intro u hu
        unfold fl2
        split
        · cases hu
        · exact hu
      have hs := binX_run (P := P) ho hb
      have : evOp P base (ev f) o H = some (.value v, H) := by
        unfold evOp
        simp only [ho]
        rw [f2 h1, f2 h2]
        show flatc P (ev f) o H = _
        unfold flatc
        have hall : (o.op.operands.toList.all fun x => fl2 (ev f x)) = true := by rw [ho]; simp [Op.operands, f2 h1, f2 h2]
        rw [hall, hs]
        show (bif flat v then some (Next.value v, H) else none) = _
        rw [h3]
        rfl
      refine evM_of ?_
      unfold evAll
      rw [this]
  | pick c a b =>
    simp only [ho] at h
    refine evM_of ?_
    unfold evAll evOp
    simp only [ho]
    unfold pickX at h
    split at h
    · rename_i t hc
      rw [hc]
      exact h
    · cases h
  | extract x i =>
    simp only [ho] at h
    refine evM_of ?_
    unfold evAll evOp
    simp only [ho, execOp]
    unfold extX at h
    split at h
    · rename_i vs hx
      cases hv : vs[i]? with
      | none => rw [hv] at h; cases h
      | some v =>
        rw [hv] at h
        obtain rfl := Option.some.inj h
        have : sv P base (do Pure.pure (Next.value (← Instr.extract (ev f x) i)) : Sem Next) H = some (.value v, H) := by
          rw [hx]
          show sv P base (Sem.bind (match vs[i]? with | some v => Pure.pure v | none => Go.stuck _) _) H = _
          rw [hv]
          rfl
        rw [this]
    · cases h
  | load t x =>
    simp only [ho] at h
    cases hl : loadX P t (ev f x) H with
    | none => rw [hl] at h; exact h
    | some v =>
      rw [hl] at h
      obtain rfl := Option.some.inj h
      refine evM_of ?_
      unfold evAll evOp
      simp only [ho, execOp]
      unfold loadX at hl
      split at hl
      · rename_i a hg hx
        have : sv P base (do Pure.pure (Next.value (← Instr.loadAt t (ev f x))) : Sem Next) H = some (.value v, H) := by
          rw [hx]
          show sv P base (Sem.bind (Sem.bind (Go.isAgg t) _) _) H = _
          rw [sv_bind, sv_bind, svp_sv H hg]
          show (sv P base (Go.load a) H).bind _ = _
          simp only [Go.load, sv, hl]
          rfl
        rw [this]
      · cases hl
  | indexAddr t x y =>
    simp only [ho] at h
    cases hl : indX P t (ev f x) (ev f y) with
    | none => rw [hl] at h; exact h
    | some v =>
      rw [hl] at h
      obtain rfl := Option.some.inj h
      refine evM_of ?_
      unfold evAll evOp
      simp only [ho, execOp]
      unfold indX at hl
      split at hl
      · rename_i el a n c k i hu hx hy
        split at hl
        · rename_i sz hs
          have hh := cond_some hl
          clear hl
          obtain ⟨hc, hl⟩ := hh
          simp only [Bool.and_eq_true, decide_eq_true_eq] at hc
          obtain rfl := Option.some.inj hl
          have : sv P base (do Pure.pure (Next.value (← Instr.indexAt t (ev f x) (ev f y))) : Sem Next) H = some (.value (.pointer (some (a.add (i.toNat * sz)))), H) := by
            rw [hx, hy]
            show sv P base (Sem.bind (Sem.bind (Go.underlying t) _) _) H = _
            rw [sv_bind, sv_bind, svp_sv H hu]
            show (sv P base (Sem.bind (Go.underlying t) _) H).bind _ = _
            rw [sv_bind, svp_sv H hu]
            show (sv P base (if 0 ≤ i ∧ i < (n : Int) then _ else _) H).bind _ = _
            rw [if_pos hc]
            show (sv P base (Sem.bind (Go.sizeOf el) _) H).bind _ = _
            rw [sv_bind, svp_sv H hs]
            rfl
          rw [this]
        · cases hl
      · cases hl
  | _ => simp only [ho] at h; exact h
/-- the operations of a region, by the shorter way -/
def evOpsF [Orc] (P : Program) (G base : Nat) (call : Caller) (yld : Rounder) (ops : Array Oper) : List Oper → St → Option St
  | [], s => some s
  | o :: rest, s => bif gdOk ops o s.f then bif Region.wanted o (yielded ops ⟨s.f⟩) then bif okO G o then match isYield s.f o with
        | some (l, args) => match yld l args s.H with
          | some (v, H1) => evOpsF P G base call yld ops rest ⟨pt o.dst v s.f, H1, s.ds⟩
          | none => none
        | none => match Orc.f o.op (ev s.f) with
          | some v => evOpsF P G base call yld ops rest ⟨pt o.dst v s.f, s.H, s.ds⟩
          | none => match evX P base s.f o s.H with
          | some (.value v, H1) => evOpsF P G base call yld ops rest ⟨pt o.dst v s.f, H1, s.ds⟩
          | some (.skip, H1) => evOpsF P G base call yld ops rest ⟨pt o.dst undef s.f, H1, s.ds⟩
          | some (.enter f args, H1) => match call f args.toList H1 with
            | some (v, H2) => evOpsF P G base call yld ops rest ⟨pt o.dst v s.f, H2, s.ds⟩
            | none => none
          | _ => none
      else none
    else evOpsF P G base call yld ops rest ⟨pt o.dst undef s.f, s.H, s.ds⟩
    else none
theorem evOpsF_eq [Ltr] [Orc] {call : Caller} {yld : Rounder} {ops : Array Oper} : ∀ (l : List Oper) (k : Nat) {s s1 : St}, (∀ j o, l[j]? = some o → ops[k + j]? = some o) → evOpsF P G base call yld ops l s = some s1 → evOps P G base call yld ops (List.range' k l.length) s = some s1
  | [], k, s, s1, _, e => e
  | o :: rest, k, s, s1, hl, e => by
    have ho : ops[k]? = some o := by simpa using hl 0 o rfl
    have ih := fun {s' : St} (e' : evOpsF P G base call yld ops rest s' = some s1) => evOpsF_eq rest (k + 1) (s := s') (fun j o' hj => by have := hl (j + 1) o' (by simpa using hj); rwa [show k + (j + 1) = k + 1 + j by omega] at this) e'
    rw [List.length_cons, List.range'_succ]
    unfold evOpsF at e
    unfold evOps
    rw [ho]
    dsimp only
    obtain ⟨hgd, e⟩ := cond_some e
    rw [hgd]
    dsimp only [cond_true]
    cases hw : Region.wanted o (yielded ops ⟨s.f⟩) with
    | false => rw [hw] at e; exact ih e
    | true =>
      rw [hw] at e
      dsimp only [cond_true] at e ⊢
      obtain ⟨hk, e⟩ := cond_some e
      rw [okO_all hk]
      dsimp only [cond_true]
      cases hy : isYield s.f o with
      | some la =>
        obtain ⟨l, args⟩ := la
        rw [hy] at e
        dsimp only at e ⊢
        cases hyr : yld l args s.H with
        | none => rw [hyr] at e; cases e
        | some p => rw [hyr] at e; exact ih e
      | none =>
        rw [hy] at e
        dsimp only at e ⊢
        cases hoc : Orc.f o.op (ev s.f) with
        | some v => rw [hoc] at e; exact ih e
        | none =>
        rw [hoc] at e
        dsimp only at e ⊢
        cases hv : evX P base s.f o s.H with
        | none => rw [hv] at e; cases e
        | some p =>
          rw [evX_eq hv]
          rw [hv] at e
          obtain ⟨nx, H1⟩ := p
          cases nx with
          | value v => exact ih e
          | skip => exact ih e
          | enter f args =>
            dsimp only at e ⊢
            cases hc : call f args.toList H1 with
            | none => rw [hc] at e; cases e
            | some q => rw [hc] at e; exact ih e
          | _ => cases e
end
end Go.Proofs.YtkhmbphcjacgnaaGreatDoor
