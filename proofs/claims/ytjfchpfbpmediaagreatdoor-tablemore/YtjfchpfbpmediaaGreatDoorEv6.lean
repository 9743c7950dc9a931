/-
  A run by reckoning, part 4: more operations; every operation.
-/
import Derived.Test.YtjfchpfbpmediaaGreatDoorEv3
import Derived.Great.BuildSlice
namespace Go.Proofs.YtjfchpfbpmediaaGreatDoor
open Go Go.RowKit
section
variable {P : Program} {X : Kep} {base : Nat} {E : Ren} {α β γ δ : Type}
/-- one that touches no memory -/
def Mless (P : Program) (base : Nat) (s : Sem α) : Prop := ∀ H r H1, sv P base s H = some (r, H1) → svp P s = some r ∧ H1 = H
theorem Mless.pure (a : α) : Mless P base (Pure.pure a : Sem α) := by
  intro H r H1 e
  obtain ⟨rfl, rfl⟩ := Prod.mk.inj (Option.some.inj e)
  exact ⟨rfl, rfl⟩
theorem svp_bind {s : Sem α} {f : α → Sem γ} : ∀ {a : α}, svp P s = some a → svp P (s.bind f) = svp P (f a) := by
  induction s with
  | pure b => intro a h; obtain rfl := Option.some.inj h; rfl
  | program k ih => intro a h; simp only [Sem.bind, svp]; exact ih _ h
  | mark m k ih => intro a h; simp only [Sem.bind, svp]; exact ih h
  | _ => intro a h; cases h
theorem Mless.bind [Ltr] {s : Sem α} {f : α → Sem γ} (h : Mless P base s) (k : ∀ a, Mless P base (f a)) : Mless P base (s >>= f) := by
  intro H r H1 e
  have e2 : sv P base (s.bind f) H = some (r, H1) := e
  rw [sv_bind] at e2
  cases hs : sv P base s H with
  | none => rw [hs] at e2; cases e2
  | some x =>
    obtain ⟨a, H2⟩ := x
    rw [hs] at e2
    obtain ⟨p1, rfl⟩ := h H a H2 hs
    obtain ⟨p2, rfl⟩ := k a H2 r H1 e2
    exact ⟨(svp_bind p1).trans p2, rfl⟩
theorem Mless.never {s : Sem α} (h : ∀ H, sv P base s H = none) : Mless P base s := by
  intro H r H1 e
  rw [h] at e
  cases e
theorem Mless.run [Ltr] {s : Sem α} (h : Mless P base s) {H H1 : RW} {r : α} (e : sv P base s H = some (r, H1)) (w : World) : s.run P w = .ok r w ∧ H1 = H :=
  ⟨svp_run w (h H r H1 e).1, (h H r H1 e).2⟩
theorem Snd.self [Ltr] {s : Sem α} (h : Mless P base s) : Snd P X base EqR E s s := by
  intro H H1 r w hR e
  obtain ⟨p1, rfl⟩ := h H r H1 e
  exact ⟨E, r, w, svp_run w p1, Ext.refl E, hR, Kp.refl _ _, rfl⟩
theorem Mless.asIntOf [Ltr] (v : Value) : Mless P base (Go.asIntOf v) := by
  cases v with
  | int k n => exact Mless.pure _
  | pointer a => cases a <;> exact Mless.never fun _ => rfl
  | _ => exact Mless.never fun _ => rfl
theorem Mless.sliceBound [Ltr] (v : Value) (y : Nat) (c : BoundsCode) : Mless P base (Instr.sliceBound v y c) := by
  refine Mless.bind (Mless.asIntOf v) fun x => ?_
  obtain ⟨k, i⟩ := x
  dsimp only
  split
  · exact Mless.pure _
  · exact Mless.never sv_boundsPanic
theorem Mless.sliceBounds [Ltr] (b : Bool) (n c : Nat) (lo hi mx : Option Value) : Mless P base (Instr.sliceBounds b n c lo hi mx) := by
  have l1 : ∀ (h m : Nat) (c : BoundsCode), Mless P base (match lo with
      | some v => (Instr.sliceBound v h c >>= fun l => Pure.pure (l, h, m))
      | none => ((Pure.pure 0 : Sem Nat) >>= fun l => Pure.pure (l, h, m))) := by
    intro h m c
    cases lo with
    | none => exact Mless.bind (Mless.pure _) fun _ => Mless.pure _
    | some v => exact Mless.bind (Mless.sliceBound _ _ _) fun _ => Mless.pure _
  cases mx with
  | none =>
    refine Mless.bind (Mless.pure _) fun m => ?_
    cases hi with
    | none => exact Mless.bind (Mless.pure _) fun h => l1 h m _
    | some v => exact Mless.bind (Mless.sliceBound _ _ _) fun h => l1 h m _
  | some u =>
    refine Mless.bind (Mless.sliceBound _ _ _) fun m => ?_
    cases hi with
    | none => exact Mless.bind (Mless.never fun _ => rfl) fun h => l1 h m _
    | some v => exact Mless.bind (Mless.sliceBound _ _ _) fun h => l1 h m _
theorem room_known {c k : Nat} (h : Nat.blt c big = true) : room c k = c := by unfold room; rw [h]; rfl
/-- a slice whose room is known -/
def okSl : Value → Bool
  | .slice (some _) _ c => Nat.blt c big
  | _ => false
theorem relSl [Ltr] {a a' : Addr} {n c : Nat} (ha : RelAd E a a') (hc : Nat.blt c big = true) : Rel E (.slice (some a) n c) (.slice (some a') n c) := by
  obtain ⟨i, o, b, k, rfl, rfl, h3⟩ := ha
  have := Rel.sl (n := n) (c := c) (o := o) h3
  rwa [room_known hc] at this
def RelQ [Ltr] (E : Ren) (v v' : Value) : Prop := okSl v = true → Rel E v v'
theorem Snd.cutArr [Ltr] {a a' : Addr} {el : TypeId} {n c : Nat} {b : Bool} {lo hi mx : Option Value} (ha : RelAd E a a') :
    Snd P X base RelQ E (do let x ← Instr.sliceBounds b n c lo hi mx; match x with | (l, h, m) => do let size ← Go.sizeOf el; Pure.pure (Value.slice (some (if m = l then a else a.add (l * size))) (h - l) (m - l)))
      (do let x ← Instr.sliceBounds b n c lo hi mx; match x with | (l, h, m) => do let size ← Go.sizeOf el; Pure.pure (Value.slice (some (if m = l then a' else a'.add (l * size))) (h - l) (m - l))) := by
  refine Snd.bind (Snd.self (Mless.sliceBounds b n c lo hi mx)) fun G r r' x2 e => ?_
  obtain rfl : r = r' := e
  obtain ⟨l, h, m⟩ := r
  refine Snd.bind (Snd.sizeOf el) fun K s s' x3 e => ?_
  obtain rfl : s = s' := e
  have h3 := (ha.mono x2).mono x3
  refine Snd.pure fun hc => ?_
  by_cases hm : m = l
  · simp only [hm, if_true] at hc ⊢
    exact relSl h3 hc
  · simp only [hm, if_false] at hc ⊢
    exact relSl (h3.add _) hc
theorem map_some_if {a : Addr} {m l s : Nat} : (if m = l then some a else Option.map (fun x => x.add (l * s)) (some a)) = some (if m = l then a else a.add (l * s)) := by split <;> rfl
theorem Snd.slice [Ltr] {t : TypeId} {v v' : Value} (hk : (match v with | .slice _ _ c => Nat.blt c big | _ => true) = true) (hf : flat v = false) (h : Rel E v v') (lo hi mx : Option Value) :
    Snd P X base RelQ E (Instr.slice t v lo hi mx) (Instr.slice t v' lo hi mx) := by
  refine Snd.bind (Snd.underlying t) fun F d d' x e => ?_
  obtain rfl : d = d' := e
  have h2 := h.mono x
  cases h2 with
  | @sl i o b k n c hE =>
    rw [room_known hk]
    cases d with
    | slice el =>
      have := Snd.cutArr (P := P) (X := X) (base := base) (el := el) (n := n) (c := c) (b := true) (lo := lo) (hi := hi) (mx := mx) (E := F) ⟨i, o, b, k, rfl, rfl, hE⟩
      simp only [map_some_if]
      exact this
    | _ => exact Snd.never fun _ => rfl
  | @ptr i o b k hE =>
    cases d with
    | pointer arr =>
      refine Snd.bind (R := RelAd) (Snd.pure ⟨i, o, b, k, rfl, rfl, hE⟩) fun G a a' x2 ha => ?_
      refine Snd.bind (Snd.underlying arr) fun K d d' x3 e => ?_
      obtain rfl : d = d' := e
      cases d with
      | array n el => exact Snd.cutArr (ha.mono x3)
      | _ => exact Snd.never fun _ => rfl
    | _ => exact Snd.never fun _ => rfl
  | same hf' => rw [hf] at hf'; cases hf'
  | _ => cases d <;> exact Snd.never fun _ => rfl
theorem Snd.sliceAt [Ltr] {t : TypeId} {v v' : Value} (hk : (match v with | .slice _ _ c => Nat.blt c big | _ => true) = true) (hf : flat v = false) (h : Rel E v v') (lo hi mx : Option Value) :
    Snd P X base RelQ E (Instr.sliceAt t v lo hi mx) (Instr.sliceAt t v' lo hi mx) := by
  refine Snd.bind (Snd.underlying t) fun F d d' x e => ?_
  obtain rfl : d = d' := e
  cases d with
  | array n el => exact Snd.bind (Snd.sureAddr (h.mono x)) fun K a a' x3 ha => Snd.cutArr ha
  | _ => exact Snd.slice hk hf (h.mono x) lo hi mx
/-- parts put into cells -/
inductive RelP [Ltr] (E : Ren) : List (Nat × Value) → List (Nat × Value) → Prop
  | nil : RelP E [] []
  | cons {i : Nat} {v v' : Value} {l l' : List (Nat × Value)} (h : Rel E v v') (ht : isTop v = false) (t : RelP E l l') : RelP E ((i, v) :: l) ((i, v') :: l')
theorem RelP.mono [Ltr] {F : Ren} (x : Ext E F) {l l' : List (Nat × Value)} : RelP E l l' → RelP F l l'
  | .nil => .nil
  | .cons h ht t => .cons (h.mono x) ht (t.mono x)
theorem RelL.sets [Ltr] {off : Nat} : ∀ {l l' : List Value} (j : Nat) {c c' : Array Value}, RelL E l l' → RelAr E c c' →
    RelAr E ((l.zipIdx j).foldl (fun cs (x : Value × Nat) => cs.setIfInBounds (off + x.2) x.1) c) ((l'.zipIdx j).foldl (fun cs (x : Value × Nat) => cs.setIfInBounds (off + x.2) x.1) c')
  | _, _, _, _, _, .nil, h => h
  | _, _, j, c, c', .cons hv t, h => by
    simp only [List.zipIdx_cons, List.foldl_cons]
    refine RelL.sets (j + 1) t ?_
    unfold RelAr
    rw [Array.toList_setIfInBounds, Array.toList_setIfInBounds]
    exact RelL.set hv h _
theorem fill_rel [Ltr] {place : Nat → Option (Nat × Nat)} : ∀ {l l' : List (Nat × Value)} {c c' r : Array Value}, RelP E l l' → RelAr E c c' → Instr.fill place c l = some r → ∃ r', Instr.fill place c' l' = some r' ∧ RelAr E r r'
  | _, _, c, c', r, .nil, h, e => by
    obtain rfl := Option.some.inj e
    exact ⟨c', rfl, h⟩
  | _, _, c, c', r, .cons (i := i) (v := v) (v' := v') hv ht t, h, e => by
    unfold Instr.fill at e ⊢
    cases hp : place i with
    | none => rw [hp] at e; cases e
    | some x =>
      obtain ⟨off, size⟩ := x
      rw [hp] at e
      dsimp only at e ⊢
      have hz := (hv.cells ht).size
      rw [hz, h.size]
      split at e
      · cases e
      · rename_i hc
        rw [if_neg hc]
        refine fill_rel t ?_ e
        have := RelL.sets (off := off) 0 (hv.cells ht) h
        rw [← Array.foldl_toList, ← Array.foldl_toList]
        simpa [Array.toList_zipIdx] using this
theorem Snd.index [Ltr] {t : TypeId} {v v' i i' : Value} (hf : flat v = false) (h : Rel E v v') (hi : Rel E i i') : Snd P X base Rel E (Instr.index t v i) (Instr.index t v' i') := by
  refine Snd.bind (Snd.asIntOf hi) fun F x y xt e => ?_
  obtain rfl : x = y := e
  obtain ⟨k, n⟩ := x
  refine Snd.bind (Snd.underlying t) fun G d d' x2 e => ?_
  obtain rfl : d = d' := e
  have h2 := h.mono (xt.trans x2)
  cases h2 with
  | agg hc =>
    cases d with
    | array len el =>
      dsimp only
      split
      · refine Snd.bind (Snd.sizeOf el) fun K s s' x3 e => ?_
        obtain rfl : s = s' := e
        exact Snd.part (RelL.mono x3 hc) _
      · exact Snd.never sv_boundsPanic
    | _ => exact Snd.never fun _ => rfl
  | same hf' => rw [hf] at hf'; cases hf'
  | _ => cases d <;> exact Snd.never fun _ => rfl
end
end Go.Proofs.YtjfchpfbpmediaaGreatDoor
/-
  A run by reckoning, part 5: an operation, whatever its kind.
-/
namespace Go.Proofs.YtjfchpfbpmediaaGreatDoor
open Go Go.RowKit
section
variable {P : Program} {X : Kep} {base : Nat} {E : Ren} {α β γ δ : Type}
/-- what an operation over names has come to, an operation over memory comes to as well -/
def Does [Ltr] (P : Program) (X : Kep) (base : Nat) (E : Ren) (w : World) (nx : Next) (H1 : RW) (s' : Sem Next) : Prop :=
  ∃ F nx' w', s'.run P w = .ok nx' w' ∧ Ext E F ∧ Rep X base F H1 w' ∧ Kp X w w' ∧ RelN F nx nx'
theorem Does.of [Ltr] {s s' : Sem Next} (h : Snd P X base RelN E s s') {H H1 : RW} {nx : Next} {w : World} (hR : Rep X base E H w) (e : sv P base s H = some (nx, H1)) : Does P X base E w nx H1 s' :=
  h H H1 nx w hR e
theorem Does.pure [Ltr] {H : RW} {v v' : Value} {w : World} {s' : Sem Next} (hR : Rep X base E H w) (hv : Rel E v v') (hr : s'.run P w = .ok (.value v') w) : Does P X base E w (.value v) H s' :=
  ⟨E, .value v', w, hr, Ext.refl E, hR, Kp.refl _ _, hv⟩
/-- flat, or parts that are -/
def fl2 (v : Value) : Bool :=
  match v with
  | .agg ⟨l⟩ => l.all flat
  | v => flat v
theorem RelL.flat_eq [Ltr] : ∀ {l l' : List Value}, l.all flat = true → RelL E l l' → l' = l
  | _, _, _, .nil => rfl
  | _, _, h, .cons r t => by
    simp only [List.all_cons, Bool.and_eq_true] at h
    rw [r.flat_eq h.1, RelL.flat_eq h.2 t]
theorem Rel.fl2_eq [Ltr] {v v' : Value} (h : fl2 v = true) (r : Rel E v v') : v' = v := by
  cases r with
  | agg hl => rw [RelL.flat_eq h hl]
  | same hf => rfl
  | tuple hl => exact Rel.flat_eq (E := E) h (.tuple hl)
  | func h1 h2 => exact Rel.flat_eq (E := E) h (.func h1 h2)
  | _ => cases h
def flatc (P : Program) (ρ : Operand → Value) (o : Oper) (H : RW) : Option (Next × RW) :=
  bif o.op.operands.toList.all (fun x => fl2 (ρ x)) then match svp P (execOp ρ o) with
    | some (.value v) => bif flat v then some (.value v, H) else none
    | _ => none
  else none
theorem map_eq_of {ρ ρ' : Operand → Value} (l : Array Operand) (h : ∀ x ∈ l, ρ x = ρ' x) : l.map ρ = l.map ρ' := Array.map_congr_left h
def flatOp : Op → Bool
  | .binOp .. | .unOp .. | .convert .. | .index .. | .slice .. | .makeInterface .. => true
  | .call c => match c.callee with
    | .value _ | .builtin _ => true
    | _ => false
  | _ => false
theorem exec_congr [Ltr] {ρ ρ' : Operand → Value} {o : Oper} (hk : flatOp o.op = true) (h : ∀ x ∈ o.op.operands, ρ x = ρ' x) : execOp ρ o = execOp ρ' o := by
  cases ho : o.op with
  | binOp op t x y t' => simp only [ho, Op.operands] at h; simp only [execOp, ho, h x (by simp), h y (by simp)]
  | unOp op t x => simp only [ho, Op.operands] at h; simp only [execOp, ho, h x (by simp)]
  | convert s d x => simp only [ho, Op.operands] at h; simp only [execOp, ho, h x (by simp)]
  | makeInterface t x => simp only [ho, Op.operands] at h; simp only [execOp, ho, h x (by simp)]
  | index t x y => simp only [ho, Op.operands] at h; simp only [execOp, ho, h x (by simp), h y (by simp)]
  | slice t x lo hi mx =>
    simp only [ho, Op.operands] at h
    have e1 : lo.map ρ = lo.map ρ' := by cases lo with
      | none => rfl
      | some y => simp [h y (by simp)]
    have e2 : hi.map ρ = hi.map ρ' := by cases hi with
      | none => rfl
      | some y => simp [h y (by simp)]
    have e3 : mx.map ρ = mx.map ρ' := by cases mx with
      | none => rfl
      | some y => simp [h y (by simp)]
    simp only [execOp, ho, h x (by simp), e1, e2, e3]
  | call c =>
    simp only [ho, Op.operands, Call.operands] at h
    have e1 : c.args.map ρ = c.args.map ρ' := map_eq_of _ fun x hx => h x (by simp [hx])
    simp only [execOp, ho, resolve, e1]
    cases hc : c.callee with
    | value f => simp only [hc] at h; dsimp only; rw [h f (by simp)]
    | builtin b => rfl
    | invoke r n => rw [ho] at hk; simp [flatOp, hc] at hk
  | _ => rw [ho] at hk; cases hk
theorem flatc_sound [Ltr] {ρ ρ' : Operand → Value} {o : Oper} {H H1 : RW} {nx : Next} {w : World} (hk : flatOp o.op = true) (hρ : ∀ x ∈ o.op.operands, Rel E (ρ x) (ρ' x)) (hR : Rep X base E H w)
    (e : flatc P ρ o H = some (nx, H1)) : Does P X base E w nx H1 (execOp ρ' o) := by
  unfold flatc at e
  cases hc : (o.op.operands.toList.all fun x => fl2 (ρ x)) with
  | false => rw [hc] at e; cases e
  | true =>
    rw [hc] at e
    have hall : ∀ x ∈ o.op.operands, fl2 (ρ x) = true := fun x hx => List.all_eq_true.1 hc x (by simpa using hx)
    have he : execOp ρ o = execOp ρ' o := exec_congr hk fun x hx => ((hρ x hx).fl2_eq (hall x hx)).symm
    cases hs : svp P (execOp ρ o) with
    | none => rw [hs] at e; cases e
    | some n =>
      rw [hs] at e
      cases n with
      | value v =>
        dsimp only [cond_true] at e
        cases hf : flat v with
        | false => rw [hf] at e; cases e
        | true =>
          rw [hf] at e
          obtain ⟨rfl, rfl⟩ := Prod.mk.inj (Option.some.inj e)
          exact Does.pure hR (.same hf) (by rw [← he]; exact svp_run w hs)
      | _ => cases e
theorem built_rel [Ltr] {t : TypeId} {l l' : List (Nat × Value)} {r : Array Value} (hz : zfl P t = true) (h : RelP E l l') (e : P.built t l = some r) : ∃ r', P.built t l' = some r' ∧ RelAr E r r' := by
  have zr : ∀ it z, P.info? t = some it → it.zero = some z → RelAr E z.cells z.cells := by
    intro it z hi hz'
    obtain ⟨z2, e2, r2⟩ := zfl_rel hz
    have : svp P (zeroValue t) = some z := by
      show svp P (Sem.bind (Go.typeInfo t) _) = some z
      rw [svp_bind (a := it) (by
        show svp P (Sem.bind Go.program _) = some it
        rw [svp_bind (a := P) rfl, hi]; rfl), hz']
      rfl
    rw [this] at e2
    obtain rfl := Option.some.inj e2
    refine (r2 E).cells ?_
    have h2 := zfl_top hz
    rw [this] at h2
    exact h2
  unfold Program.built at e ⊢
  cases hi : P.info? t with
  | none => rw [hi] at e; cases e
  | some it =>
    cases hu : P.underlying t with
    | none => rw [hi, hu] at e; cases e
    | some d =>
      rw [hi, hu] at e
      cases d with
      | array n el =>
        dsimp only at e ⊢
        cases hz' : it.zero with
        | none => rw [hz'] at e; cases e
        | some z =>
          cases hie : P.info? el with
          | none => rw [hz', hie] at e; cases e
          | some ie =>
            rw [hz', hie] at e
            exact fill_rel h (zr it z hi hz') e
      | struct fs =>
        dsimp only at e ⊢
        cases hz' : it.zero with
        | none => rw [hz'] at e; cases e
        | some z =>
          cases hp : fs.toList.mapM (fun f => (P.info? f.type).map fun i => (f.offset, i.size)) with
          | none => rw [hz', hp] at e; cases e
          | some places =>
            rw [hz', hp] at e
            exact fill_rel h (zr it z hi hz') e
      | _ => cases e
def noTops : List (Nat × Value) → Bool
  | [] => true
  | x :: l => bif isTop x.2 then false else noTops l
theorem RelP.of [Ltr] {ρ ρ' : Operand → Value} : ∀ {l : List (Nat × Operand)}, noTops (l.map fun x => (x.1, ρ x.2)) = true → (∀ x ∈ l, Rel E (ρ x.2) (ρ' x.2)) → RelP E (l.map fun x => (x.1, ρ x.2)) (l.map fun x => (x.1, ρ' x.2))
  | [], _, _ => .nil
  | x :: l, ht, h => by
    simp only [List.map_cons, noTops] at ht
    cases hx : isTop (ρ x.2) with
    | true => rw [hx] at ht; cases ht
    | false =>
      rw [hx] at ht
      exact .cons (h x (by simp)) hx (RelP.of ht fun y hy => h y (by simp [hy]))
theorem RelL.of [Ltr] {ρ ρ' : Operand → Value} : ∀ {l : List Operand}, (∀ x ∈ l, Rel E (ρ x) (ρ' x)) → RelL E (l.map ρ) (l.map ρ')
  | [], _ => .nil
  | x :: l, h => .cons (h x (by simp)) (RelL.of fun y hy => h y (by simp [hy]))
/-- the cells of a slice literal -/
def bsl (P : Program) (t : TypeId) (len : Nat) (parts : List (Nat × Value)) : Option (TypeId × Array Value) :=
  match P.underlying t with
  | some (.slice e) => match P.info? e with
    | some ie => match ie.zero with
      | some z => bif Nat.beq len 0 then match parts with
          | [] => some (e, #[])
          | _ => none
        else
        let zs := (Array.range (len * ie.size)).map (z.cells[· % z.cells.size]!)
        bif Nat.ble (len * ie.size) 16777216 && Nat.blt 0 (len * ie.size) && zs.toList.all flat && Nat.blt len big then (Instr.fill (fun i => some (i * ie.size, ie.size)) zs parts).map (e, ·) else none
      | none => none
    | none => none
  | _ => none
theorem bsl_rel [Ltr] {t e : TypeId} {len : Nat} {l : List (Nat × Value)} {parts' : Array (Nat × Value)} {r : Array Value} (h : RelP E l parts'.toList) (hb : bsl P t len l = some (e, r)) (w : World) :
    ∃ r', (Instr.buildSlice t len parts').run P w = .ok (.slice (some ⟨w.heap.size, 0, none⟩) len len) (w.alloc (.cells r' e)) ∧ RelAr E r r' ∧ Nat.blt len big = true := by
  unfold bsl at hb
  cases hu : P.underlying t with
  | none => rw [hu] at hb; cases hb
  | some d =>
    rw [hu] at hb
    cases d with
    | slice e0 =>
      dsimp only at hb
      cases hie : P.info? e0 with
      | none => rw [hie] at hb; cases hb
      | some ie =>
        rw [hie] at hb
        dsimp only at hb
        cases hz : ie.zero with
        | none => rw [hz] at hb; cases hb
        | some z =>
          rw [hz] at hb
          dsimp only at hb
          cases hl0 : Nat.beq len 0 with
          | true =>
            rw [hl0] at hb
            dsimp only [cond_true] at hb
            obtain rfl := Nat.eq_of_beq_eq_true hl0
            split at hb
            · obtain ⟨rfl, rfl⟩ := Prod.mk.inj (Option.some.inj hb)
              refine ⟨#[], ?_, .nil, rfl⟩
              have hp : parts' = #[] := by
                apply Array.ext'
                cases hq : parts'.toList with
                | nil => rfl
                | cons a l => rw [hq] at h; cases h
              subst hp
              simp [Instr.buildSlice, run_underlying hu, sizeOf, typeInfo, hie, newRow, Instr.fill, Array.range_zero']
            · cases hb
          | false =>
          rw [hl0] at hb
          dsimp only [cond_false] at hb
          cases hc : (Nat.ble (len * ie.size) 16777216 && Nat.blt 0 (len * ie.size) && ((Array.range (len * ie.size)).map (z.cells[· % z.cells.size]!)).toList.all flat && Nat.blt len big) with
          | false => rw [hc] at hb; cases hb
          | true =>
            rw [hc] at hb
            simp only [Bool.and_eq_true] at hc
            obtain ⟨⟨⟨c1, c2⟩, c3⟩, c4⟩ := hc
            cases hf : Instr.fill (fun i => some (i * ie.size, ie.size)) ((Array.range (len * ie.size)).map (z.cells[· % z.cells.size]!)) l with
            | none => rw [hf] at hb; cases hb
            | some cells =>
              rw [hf] at hb
              obtain ⟨rfl, rfl⟩ := Prod.mk.inj (Option.some.inj hb)
              obtain ⟨r', hr', hrel⟩ := fill_rel h (RelL.flats c3) hf
              have c1' := Nat.le_of_ble_eq_true c1
              have c2' : 0 < len * ie.size := Nat.le_of_ble_eq_true c2
              exact ⟨r', run_buildSlice w t e0 len parts' r' ie z hu hie hz (by omega) (by omega) hr', hrel, c4⟩
    | _ => cases hb
def callOk (P : Program) (g : FuncId) : Bool :=
  match P.funcs[g]? with
  | some fn => fn.body.isSome && !(fn.name == "runtime.NumGoroutine")
  | none => false
theorem run_callFunc_of {g : FuncId} {args : Array Value} (h : callOk P g = true) (w : World) : (callFunc g args).run P w = .ok (.enter g args) w := by
  unfold callOk at h
  cases hf : P.funcs[g]? with
  | none => rw [hf] at h; cases h
  | some fn =>
    rw [hf] at h
    simp only [Bool.and_eq_true, Bool.not_eq_true'] at h
    have hb : fn.body ≠ none := fun hb => by rw [hb] at h; cases h.1
    have hn : fn.name ≠ "runtime.NumGoroutine" := by simpa using h.2
    simp [callFunc, Go.program, Sem.run, hf, hn, hb]
/-- is it nil? -/
def nilcmp (P : Program) (op : BinOp) (t : TypeId) (x y : Value) : Option Bool :=
  match op, svp P (Go.underlying t), x, y with
  | .eql, some (.slice _), .slice (some _) _ _, .slice none _ _ => some false
  | .neq, some (.slice _), .slice (some _) _ _, .slice none _ _ => some true
  | .eql, some (.pointer _), .pointer (some _), .pointer none => some false
  | .neq, some (.pointer _), .pointer (some _), .pointer none => some true
  | .eql, some (.func _ _ _), .func _ _ _, .nilFunc => some false
  | .neq, some (.func _ _ _), .func _ _ _, .nilFunc => some true
  | .eql, some (.map _ _), .map (some _), .map none => some false
  | .neq, some (.map _ _), .map (some _), .map none => some true
  | _, _, _, _ => none
end
end Go.Proofs.YtjfchpfbpmediaaGreatDoor
/-
  A run by reckoning, part 6: every operation, over names and over memory.
-/
namespace Go.Proofs.YtjfchpfbpmediaaGreatDoor
open Go Go.RowKit
def evOp (P : Program) (base : Nat) (ρ : Operand → Value) (o : Oper) (H : RW) : Option (Next × RW) :=
  match o.op with
  | .move x | .assign x => some (.value (ρ x), H)
  | .pick c a b => match ρ c with
    | .bool t => some (.value (bif t then ρ a else ρ b), H)
    | _ => none
  | .alloc t => bif zfl P t then sv P base (execOp ρ o) H else none
  | .box _ x => bif isTop (ρ x) then none else sv P base (execOp ρ o) H
  | .store _ _ x => bif isTop (ρ x) then none else sv P base (execOp ρ o) H
  | .load .. | .field .. | .extract .. | .indexAddr .. => sv P base (execOp ρ o) H
  | .fieldAddr t _ f => bif fokAt P t f then sv P base (execOp ρ o) H else none
  | .build t parts => bif zfl P t && noTops (parts.toList.map fun x => (x.1, ρ x.2)) then match P.built t (parts.toList.map fun x => (x.1, ρ x.2)) with
      | some c => some (.value (.agg c), H)
      | none => none
    else none
  | .buildSlice t len parts => bif noTops (parts.toList.map fun x => (x.1, ρ x.2)) then match bsl P t len (parts.toList.map fun x => (x.1, ρ x.2)) with
    | some (e, c) => some (.value (.slice (some ⟨H.n, 0, none⟩) len len), H.push (.row c.toList e))
    | none => none
    else none
  | .nilCheck x => match ρ x with
    | .pointer (some a) => some (.value (.pointer (some a)), H)
    | .slice a n c => some (.value (.slice a n c), H)
    | .func (.func g) x y => some (.value (.func (.func g) x y), H)
    | _ => none
  | .makeFunc (.func g) first captured => some (.value (.func (.func g) ⟨first.toList.map ρ⟩ ⟨captured.toList.map ρ⟩), H)
  | .makeInterface t x => match svp P (Go.underlying t) with
    | some (.interface _) => none
    | some _ => some (.value (.iface t (ρ x)), H)
    | none => none
  | .slice t x lo hi mx => bif flat (ρ x) then flatc P ρ o H else
      bif (match ρ x with | .slice _ _ c => Nat.blt c big | _ => true) && (lo.toList ++ hi.toList ++ mx.toList).all (fun y => flat (ρ y)) then
        match sv P base (Instr.sliceAt t (ρ x) (lo.map ρ) (hi.map ρ) (mx.map ρ)) H with
        | some (v, H1) => bif okSl v then some (.value v, H1) else none
        | none => none
      else none
  | .binOp op t x y _ => bif fl2 (ρ x) && fl2 (ρ y) then flatc P ρ o H else match nilcmp P op t (ρ x) (ρ y) with
    | some b => some (.value (.bool b), H)
    | none => none
  | .unOp .. | .convert .. => flatc P ρ o H
  | .index _ x _ => bif flat (ρ x) then flatc P ρ o H else sv P base (execOp ρ o) H
  | .call c => match c.callee with
    | .value f => match ρ f with
      | .func (.func g) first captured => bif callOk P g then some (.enter g (first ++ ⟨c.args.toList.map ρ⟩ ++ captured), H) else flatc P ρ o H
      | _ => none
    | .builtin .len => match c.args.toList, c.argTypes.toList with
      | [x], [t] => match ρ x, svp P (Go.underlying t) with
        | .slice (some _) n _, some (.slice _) => some (.value (.int .i64 n), H)
        | _, _ => flatc P ρ o H
      | _, _ => none
    | .builtin .min | .builtin .max => flatc P ρ o H
    | _ => none
  | _ => none
section
variable {P : Program} {X : Kep} {base : Nat} {E : Ren}
theorem eq_slice [Ltr] {t el : TypeId} {a : Addr} {n c n' c' : Nat} {w : World} (hu : svp P (Go.underlying t) = some (.slice el)) : (Op.equal t (.slice (some a) n c) (.slice none n' c')).run P w = .ok false w := by
  show (Op.equalIn (9999 + 1) t _ _).run P w = _
  rw [Op.equalIn, Sem.run_bind, svp_run w hu]
  rfl
theorem eq_ptr [Ltr] {t el : TypeId} {a : Addr} {w : World} (hu : svp P (Go.underlying t) = some (.pointer el)) : (Op.equal t (.pointer (some a)) (.pointer none)).run P w = .ok false w := by
  show (Op.equalIn (9999 + 1) t _ _).run P w = _
  rw [Op.equalIn, Sem.run_bind, svp_run w hu]
  rfl
theorem eq_map [Ltr] {t k el : TypeId} {a : Nat} {w : World} (hu : svp P (Go.underlying t) = some (.map k el)) : (Op.equal t (.map (some a)) (.map none)).run P w = .ok false w := by
  show (Op.equalIn (9999 + 1) t _ _).run P w = _
  rw [Op.equalIn, Sem.run_bind, svp_run w hu]
  rfl
theorem eq_func [Ltr] {t : TypeId} {p r : Array TypeId} {v : Bool} {f : Fn} {x y : Array Value} {w : World} (hu : svp P (Go.underlying t) = some (.func p r v)) : (Op.equal t (.func f x y) .nilFunc).run P w = .ok false w := by
  show (Op.equalIn (9999 + 1) t _ _).run P w = _
  rw [Op.equalIn, Sem.run_bind, svp_run w hu]
  rfl
theorem eql_run {t : TypeId} {x y : Value} {xo yo : Operand} {w : World} (hg : eqGuard .eql t xo yo x y = Pure.pure ()) (hb : binOp .eql t x y = (Op.equal t x y >>= fun b => Pure.pure (Value.bool b))) (h : (Op.equal t x y).run P w = .ok false w) :
    (do eqGuard .eql t xo yo x y; binOp .eql t x y : Sem Value).run P w = .ok (.bool false) w := by
  rw [hg, hb, Sem.run_bind, Sem.run_pure, Result.andThen_ok, Sem.run_bind, h]
  rfl
theorem neq_run {t : TypeId} {x y : Value} {xo yo : Operand} {w : World} (hg : eqGuard .neq t xo yo x y = Pure.pure ()) (hb : binOp .neq t x y = (Op.equal t x y >>= fun b => Pure.pure (Value.bool (!b)))) (h : (Op.equal t x y).run P w = .ok false w) :
    (do eqGuard .neq t xo yo x y; binOp .neq t x y : Sem Value).run P w = .ok (.bool true) w := by
  rw [hg, hb, Sem.run_bind, Sem.run_pure, Result.andThen_ok, Sem.run_bind, h]
  rfl
theorem nilcmp_run [Ltr] {op : BinOp} {t : TypeId} {x y x' y' : Value} {b : Bool} {xo yo : Operand} (h : nilcmp P op t x y = some b) (hx : Rel E x x') (hy : Rel E y y') (w : World) :
    (do eqGuard op t xo yo x' y'; binOp op t x' y' : Sem Value).run P w = .ok (.bool b) w := by
  unfold nilcmp at h
  split at h
  case h_1 hu => obtain rfl := Option.some.inj h; obtain rfl := hy.flat_eq rfl; cases hx with
    | sl _ => exact eql_run rfl rfl (eq_slice hu)
    | same hf => cases hf
  case h_2 hu => obtain rfl := Option.some.inj h; obtain rfl := hy.flat_eq rfl; cases hx with
    | sl _ => exact neq_run rfl rfl (eq_slice hu)
    | same hf => cases hf
  case h_3 hu => obtain rfl := Option.some.inj h; obtain rfl := hy.flat_eq rfl; cases hx with
    | ptr _ => exact eql_run rfl rfl (eq_ptr hu)
    | same hf => cases hf
  case h_4 hu => obtain rfl := Option.some.inj h; obtain rfl := hy.flat_eq rfl; cases hx with
    | ptr _ => exact neq_run rfl rfl (eq_ptr hu)
    | same hf => cases hf
  case h_5 hu => obtain rfl := Option.some.inj h; obtain rfl := hy.flat_eq rfl; cases hx with
    | func _ _ => exact eql_run rfl rfl (eq_func hu)
    | yld _ => exact eql_run rfl rfl (eq_func hu)
    | same hf => exact eql_run rfl rfl (eq_func hu)
  case h_6 hu => obtain rfl := Option.some.inj h; obtain rfl := hy.flat_eq rfl; cases hx with
    | func _ _ => exact neq_run rfl rfl (eq_func hu)
    | yld _ => exact neq_run rfl rfl (eq_func hu)
    | same hf => exact neq_run rfl rfl (eq_func hu)
  case h_7 hu => obtain rfl := Option.some.inj h; obtain rfl := hy.flat_eq rfl; cases hx with
    | map _ => exact eql_run rfl rfl (eq_map hu)
    | same hf => cases hf
  case h_8 hu => obtain rfl := Option.some.inj h; obtain rfl := hy.flat_eq rfl; cases hx with
    | map _ => exact neq_run rfl rfl (eq_map hu)
    | same hf => cases hf
  case h_9 => cases h
theorem mem_ops [Ltr] {o : Oper} {ρ ρ' : Operand → Value} (hρ : ∀ x ∈ o.op.operands, Rel E (ρ x) (ρ' x)) {l : Array Operand} (e : o.op.operands = l) {x : Operand} (h : x ∈ l) : Rel E (ρ x) (ρ' x) := hρ x (e ▸ h)
theorem run_value {s : Sem Value} {v : Value} {w w' : World} (h : s.run P w = .ok v w') : (do Pure.pure (Next.value (← s)) : Sem Next).run P w = .ok (.value v) w' := by
  rw [Sem.run_bind, h]
  rfl
theorem cond_someA {α : Type} {b : Bool} {x : Option α} {y : α} (h : (bif b then x else none) = some y) : b = true ∧ x = some y := by
  cases b with
  | true => exact ⟨rfl, h⟩
  | false => cases h
theorem evOp_sound [Ltr] {ρ ρ' : Operand → Value} {o : Oper} {H H1 : RW} {nx : Next} {w : World} (hρ : ∀ x ∈ o.op.operands, Rel E (ρ x) (ρ' x)) (hR : Rep X base E H w)
    (e : evOp P base ρ o H = some (nx, H1)) : Does P X base E w nx H1 (execOp ρ' o) := by
  have hm := fun l e x h => mem_ops (E := E) (o := o) hρ (l := l) e (x := x) h
  unfold evOp at e
  cases ho : o.op with
  | move x =>
    simp only [ho] at e
    obtain ⟨rfl, rfl⟩ := Prod.mk.inj (Option.some.inj e)
    exact Does.pure hR (hm #[x] (by rw [ho]; rfl) x (by simp)) (by simp [execOp, ho])
  | assign x =>
    simp only [ho] at e
    obtain ⟨rfl, rfl⟩ := Prod.mk.inj (Option.some.inj e)
    exact Does.pure hR (hm #[x] (by rw [ho]; rfl) x (by simp)) (by simp [execOp, ho])
  | pick c a b =>
    simp only [ho] at e
    have h1 := hm #[c, a, b] (by rw [ho]; rfl) c (by simp)
    have h2 := hm #[c, a, b] (by rw [ho]; rfl) a (by simp)
    have h3 := hm #[c, a, b] (by rw [ho]; rfl) b (by simp)
    cases hc : ρ c with
    | bool t =>
      rw [hc] at e h1
      obtain ⟨rfl, rfl⟩ := Prod.mk.inj (Option.some.inj e)
      have h1' := h1.bool
      cases t with
      | true => exact Does.pure hR h2 (by simp [execOp, ho, h1', asBool])
      | false => exact Does.pure hR h3 (by simp [execOp, ho, h1', asBool])
    | _ => rw [hc] at e; cases e
  | alloc t =>
    simp only [ho] at e
    cases hz : zfl P t with
    | false => rw [hz] at e; cases e
    | true =>
      rw [hz] at e
      refine Does.of ?_ hR e
      simp only [execOp, ho]
      exact Snd.value (Snd.alloc hz)
  | box t x =>
    simp only [ho] at e
    cases ht : isTop (ρ x) with
    | true => rw [ht] at e; cases e
    | false =>
      rw [ht] at e
      refine Does.of ?_ hR e
      simp only [execOp, ho]
      exact Snd.value (Snd.box (hm #[x] (by rw [ho]; rfl) x (by simp)) ht)
  | load t x =>
    simp only [ho] at e
    refine Does.of ?_ hR e
    simp only [execOp, ho]
    exact Snd.value (Snd.loadAt (hm #[x] (by rw [ho]; rfl) x (by simp)))
  | store t x y =>
    simp only [ho] at e
    cases ht : isTop (ρ y) with
    | true => rw [ht] at e; cases e
    | false =>
      rw [ht] at e
      refine Does.of ?_ hR e
      simp only [execOp, ho]
      exact Snd.unit (Snd.storeAt (hm #[x, y] (by rw [ho]; rfl) x (by simp)) (hm #[x, y] (by rw [ho]; rfl) y (by simp)) ht)
  | field t x f =>
    simp only [ho] at e
    refine Does.of ?_ hR e
    simp only [execOp, ho]
    exact Snd.value (Snd.field (hm #[x] (by rw [ho]; rfl) x (by simp)) f)
  | extract x i =>
    simp only [ho] at e
    refine Does.of ?_ hR e
    simp only [execOp, ho]
    exact Snd.value (Snd.extract (hm #[x] (by rw [ho]; rfl) x (by simp)) i)
  | indexAddr t x y =>
    simp only [ho] at e
    refine Does.of ?_ hR e
    simp only [execOp, ho]
    exact Snd.value (Snd.indexAt (hm #[x, y] (by rw [ho]; rfl) x (by simp)) (hm #[x, y] (by rw [ho]; rfl) y (by simp)))
  | fieldAddr t x f =>
    simp only [ho] at e
    cases hz : fokAt P t f with
    | false => rw [hz] at e; cases e
    | true =>
      rw [hz] at e
      refine Does.of ?_ hR e
      simp only [execOp, ho]
      exact Snd.value (Snd.fieldAt hz (hm #[x] (by rw [ho]; rfl) x (by simp)))
  | build t parts =>
    simp only [ho] at e
    cases hzz : (zfl P t && noTops (parts.toList.map fun x => (x.1, ρ x.2))) with
    | false => rw [hzz] at e; cases e
    | true =>
      rw [hzz] at e
      dsimp only [cond_true] at e
      simp only [Bool.and_eq_true] at hzz
      obtain ⟨hz, hnt⟩ := hzz
      cases hb : P.built t (parts.toList.map fun x => (x.1, ρ x.2)) with
      | none => rw [hb] at e; cases e
      | some c =>
        rw [hb] at e
        obtain ⟨rfl, rfl⟩ := Prod.mk.inj (Option.some.inj e)
        obtain ⟨r', hr', hrel⟩ := built_rel hz (RelP.of (ρ := ρ) (ρ' := ρ') (l := parts.toList) hnt fun x hx => hm (parts.toList.map (·.2)).toArray (by rw [ho]; rfl) x.2 (by simp; exact ⟨x.1, by simpa using hx⟩)) hb
        refine Does.pure hR (.agg hrel) ?_
        simp only [execOp, ho]
        refine run_value (run_build w t _ r' ?_)
        rw [← hr']
        congr 1
        simp
  | buildSlice t len parts =>
    simp only [ho] at e
    obtain ⟨hnt, e⟩ := cond_someA e
    cases hb : bsl P t len (parts.toList.map fun x => (x.1, ρ x.2)) with
    | none => rw [hb] at e; cases e
    | some p =>
      obtain ⟨el, c⟩ := p
      rw [hb] at e
      obtain ⟨rfl, rfl⟩ := Prod.mk.inj (Option.some.inj e)
      have hp := RelP.of (E := E) (ρ := ρ) (ρ' := ρ') (l := parts.toList) hnt fun x hx => hm (parts.toList.map (·.2)).toArray (by rw [ho]; rfl) x.2 (by simp; exact ⟨x.1, by simpa using hx⟩)
      obtain ⟨r', hr', hrel, hlen⟩ := bsl_rel (parts' := parts.map fun x => (x.1, ρ' x.2)) (by simpa using hp) hb w
      obtain ⟨p1, p2, p3⟩ := hR.push (o := .row c.toList el) (x := .cells r' el) (k := 0) (fun F x => ⟨r'.toList, rfl, RelL.mono x hrel⟩)
      refine ⟨_, .value (.slice (some ⟨w.heap.size, 0, none⟩) len len), _, ?_, p2, p1, p3, relSl ⟨_, _, _, _, rfl, rfl, Ren.at⟩ hlen⟩
      simp only [execOp, ho]
      exact run_value hr'
  | nilCheck x =>
    simp only [ho] at e
    have h1 := hm #[x] (by rw [ho]; rfl) x (by simp)
    cases hx : ρ x with
    | pointer a =>
      rw [hx] at e h1
      cases a with
      | none => cases e
      | some a =>
        obtain ⟨rfl, rfl⟩ := Prod.mk.inj (Option.some.inj e)
        refine Does.pure hR h1 ?_
        generalize hy : ρ' x = y at h1
        cases h1 with
        | same hf => cases hf
        | ptr _ => simp [execOp, ho, hy]
    | slice a n c =>
      rw [hx] at e h1
      obtain ⟨rfl, rfl⟩ := Prod.mk.inj (Option.some.inj e)
      refine Does.pure hR h1 ?_
      generalize hy : ρ' x = y at h1
      cases h1 with
      | same hf => simp [execOp, ho, hy]
      | sl _ => simp [execOp, ho, hy]
    | func f a b =>
      rw [hx] at e h1
      cases f with
      | func g =>
        obtain ⟨rfl, rfl⟩ := Prod.mk.inj (Option.some.inj e)
        refine Does.pure hR h1 ?_
        generalize hy : ρ' x = y at h1
        cases h1 with
        | same hf => simp [execOp, ho, hy]
        | func _ _ => simp [execOp, ho, hy]
      | _ => cases e
    | _ => rw [hx] at e; cases e
  | makeFunc f first captured =>
    simp only [ho] at e
    cases f with
    | func g =>
      obtain ⟨rfl, rfl⟩ := Prod.mk.inj (Option.some.inj e)
      have h1 : RelL E (first.toList.map ρ) (first.toList.map ρ') := RelL.of fun x hx => hm (first ++ captured) (by rw [ho]; rfl) x (by simp at hx ⊢; exact .inl hx)
      have h2 : RelL E (captured.toList.map ρ) (captured.toList.map ρ') := RelL.of fun x hx => hm (first ++ captured) (by rw [ho]; rfl) x (by simp at hx ⊢; exact .inr hx)
      refine Does.pure hR (.func h1 h2) ?_
      have e1 : first.map ρ' = ⟨first.toList.map ρ'⟩ := by apply Array.ext'; simp
      have e2 : captured.map ρ' = ⟨captured.toList.map ρ'⟩ := by apply Array.ext'; simp
      simp only [execOp, ho, Instr.makeFunc, e1, e2]
      rfl
    | _ => cases e
  | makeInterface t x =>
    simp only [ho] at e
    have h1 := hm #[x] (by rw [ho]; rfl) x (by simp)
    cases hu : svp P (Go.underlying t) with
    | none => rw [hu] at e; cases e
    | some d =>
      have hu' := svp_run w hu
      rw [hu] at e
      cases d with
      | interface m => cases e
      | _ =>
        obtain ⟨rfl, rfl⟩ := Prod.mk.inj (Option.some.inj e)
        refine Does.pure hR (.iface h1) ?_
        simp only [execOp, ho]
        refine run_value ?_
        simp [Instr.makeInterface, hu']
  | slice t x lo hi mx =>
    simp only [ho] at e
    cases hf : flat (ρ x) with
    | true => rw [hf] at e; exact flatc_sound (by rw [ho]; rfl) hρ hR e
    | false =>
      rw [hf] at e
      dsimp only [cond_false] at e
      cases hc : ((match ρ x with | .slice _ _ c => Nat.blt c big | _ => true) && (lo.toList ++ hi.toList ++ mx.toList).all (fun y => flat (ρ y))) with
      | false => rw [hc] at e; cases e
      | true =>
        rw [hc] at e
        dsimp only [cond_true] at e
        simp only [Bool.and_eq_true] at hc
        cases hs : sv P base (Instr.sliceAt t (ρ x) (lo.map ρ) (hi.map ρ) (mx.map ρ)) H with
        | none => rw [hs] at e; cases e
        | some p =>
          obtain ⟨v, H2⟩ := p
          rw [hs] at e
          dsimp only at e
          cases hk : okSl v with
          | false => rw [hk] at e; cases e
          | true =>
            rw [hk] at e
            obtain ⟨rfl, rfl⟩ := Prod.mk.inj (Option.some.inj e)
            have hl : ∀ y ∈ lo.toList ++ hi.toList ++ mx.toList, ρ' y = ρ y := fun y hy => by
              refine (hm (#[x] ++ lo.toArray ++ hi.toArray ++ mx.toArray) (by rw [ho]; rfl) y ?_).flat_eq (List.all_eq_true.1 hc.2 y hy)
              simp at hy ⊢
              rcases hy with h | h | h
              · exact .inr (.inl h)
              · exact .inr (.inr (.inl h))
              · exact .inr (.inr (.inr h))
            have e1 : lo.map ρ' = lo.map ρ := by cases lo with
              | none => rfl
              | some y => simp [hl y (by simp)]
            have e2 : hi.map ρ' = hi.map ρ := by cases hi with
              | none => rfl
              | some y => simp [hl y (by simp)]
            have e3 : mx.map ρ' = mx.map ρ := by cases mx with
              | none => rfl
              | some y => simp [hl y (by simp)]
            have hx := hm (#[x] ++ lo.toArray ++ hi.toArray ++ mx.toArray) (by rw [ho]; rfl) x (by simp)
            obtain ⟨F, v', w', hr, x1, R1, b1, rv⟩ := Snd.sliceAt hc.1 hf hx (lo.map ρ) (hi.map ρ) (mx.map ρ) H H2 v w hR hs
            refine ⟨F, .value v', w', ?_, x1, R1, b1, rv hk⟩
            simp only [execOp, ho, e1, e2, e3]
            exact run_value hr
  | binOp op t x y t' =>
    simp only [ho] at e
    cases hf : (fl2 (ρ x) && fl2 (ρ y)) with
    | true => rw [hf] at e; exact flatc_sound (by rw [ho]; rfl) hρ hR e
    | false =>
      rw [hf] at e
      dsimp only [cond_false] at e
      cases hn : nilcmp P op t (ρ x) (ρ y) with
      | none => rw [hn] at e; cases e
      | some b =>
        rw [hn] at e
        obtain ⟨rfl, rfl⟩ := Prod.mk.inj (Option.some.inj e)
        refine Does.pure hR (.same rfl) ?_
        simp only [execOp, ho]
        exact run_value (nilcmp_run hn (hm #[x, y] (by rw [ho]; rfl) x (by simp)) (hm #[x, y] (by rw [ho]; rfl) y (by simp)) w)
  | unOp op t x => simp only [ho] at e; exact flatc_sound (by rw [ho]; rfl) hρ hR e
  | convert s d x => simp only [ho] at e; exact flatc_sound (by rw [ho]; rfl) hρ hR e
  | index t x y =>
    simp only [ho] at e
    cases hf : flat (ρ x) with
    | true => rw [hf] at e; exact flatc_sound (by rw [ho]; rfl) hρ hR e
    | false =>
      rw [hf] at e
      refine Does.of ?_ hR e
      simp only [execOp, ho]
      exact Snd.value (Snd.index hf (hm #[x, y] (by rw [ho]; rfl) x (by simp)) (hm #[x, y] (by rw [ho]; rfl) y (by simp)))
  | call c =>
    simp only [ho] at e
    cases hc : c.callee with
    | value f =>
      simp only [hc] at e
      have hop : o.op.operands = #[f] ++ c.args := by rw [ho]; simp [Op.operands, Call.operands, hc]
      have hf1 := hm _ hop f (by simp)
      cases hf : ρ f with
      | func fn first captured =>
        rw [hf] at e hf1
        cases fn with
        | func g =>
          dsimp only at e
          cases hk : callOk P g with
          | false =>
            rw [hk] at e
            exact flatc_sound (by rw [ho]; simp [flatOp, hc]) hρ hR e
          | true =>
            rw [hk] at e
            obtain ⟨rfl, rfl⟩ := Prod.mk.inj (Option.some.inj e)
            have ha : RelL E (c.args.toList.map ρ) (c.args.toList.map ρ') := RelL.of fun x hx => hm _ hop x (by simp at hx ⊢; exact .inr hx)
            have e1 : c.args.map ρ' = ⟨c.args.toList.map ρ'⟩ := by apply Array.ext'; simp
            have fin : ∀ first' captured' : Array Value, ρ' f = .func (.func g) first' captured' → RelL E first.toList first'.toList → RelL E captured.toList captured'.toList →
                Does P X base E w (.enter g (first ++ ⟨c.args.toList.map ρ⟩ ++ captured)) H (execOp ρ' o) := by
              intro first' captured' hf' r1 r2
              refine ⟨E, .enter g (first' ++ ⟨c.args.toList.map ρ'⟩ ++ captured'), w, ?_, Ext.refl E, hR, Kp.refl _ _, rfl, ?_⟩
              · simp only [execOp, ho, resolve, hc, hf', e1, Deferred.ofValue, invoke, pure_bind]
                exact run_callFunc_of hk w
              · simpa using (r1.append (ha.append r2))
            generalize hy : ρ' f = y at hf1
            cases hf1 with
            | same hff =>
              obtain ⟨l1⟩ := first
              obtain ⟨l2⟩ := captured
              cases l1 with
              | cons a l => cases hff
              | nil => cases l2 with
                | cons a l => cases hff
                | nil => exact fin _ _ hy .nil .nil
            | func r1 r2 => exact fin _ _ hy r1 r2
        | _ => cases e
      | _ => rw [hf] at e; cases e
    | builtin b =>
      simp only [hc] at e
      have hop : o.op.operands = c.args := by rw [ho]; simp [Op.operands, Call.operands, hc]
      cases b with
      | len =>
        dsimp only at e
        split at e
        · rename_i x t ha ht
          have ha' : c.args = #[x] := by apply Array.ext'; simpa using ha
          have ht' : c.argTypes = #[t] := by apply Array.ext'; simpa using ht
          split at e
          · rename_i a n cp el hx hu
            obtain ⟨rfl, rfl⟩ := Prod.mk.inj (Option.some.inj e)
            refine Does.pure hR (.same rfl) ?_
            have h1 := hm _ hop x (by rw [ha']; simp)
            rw [hx] at h1
            generalize hy : ρ' x = y at h1
            have hu' := svp_run w hu
            simp only [execOp, ho, resolve, hc, ha', ht', invoke, pure_bind, Go.builtin]
            refine run_value ?_
            cases h1 with
            | same hff => cases hff
            | sl _ => simp [Builtin.len_, hy, hu', goInt]
          · exact flatc_sound (by rw [ho]; simp [flatOp, hc]) hρ hR e
        · cases e
      | min => exact flatc_sound (by rw [ho]; simp [flatOp, hc]) hρ hR e
      | max => exact flatc_sound (by rw [ho]; simp [flatOp, hc]) hρ hR e
      | _ => cases e
    | invoke r n => simp only [hc] at e; cases e
  | _ => simp only [ho] at e; cases e
end
end Go.Proofs.YtjfchpfbpmediaaGreatDoor
