/-
  A run by reckoning, part 5: an operation, whatever its kind.
-/
import Derived.Test.YtkhmbphcjacgnaaGreatDoorEv4
import Derived.Great.BuildSlice
namespace Go.Proofs.YtkhmbphcjacgnaaGreatDoor
open Go Go.RowKit
section
variable {P : Program} {X : Kep} {base : Nat} {E : Ren} {α β γ δ : Type}
/-- what an operation over names has come to, an operation over memory comes to as well -/
def Does [Ltr] (P : Program) (X : Kep) (base : Nat) (E : Ren) (w : World) (nx : Next) (H1 : RW) (s' : Sem Next) : Prop :=
  ∃ F nx' w', s'.run P w = .ok nx' w' ∧ Ext E F ∧ Rep X base F H1 w' ∧ Kp X w w' ∧ RelN F nx nx'
theorem Does.of [Ltr] {s s' : Sem Next} (h : Snd P X base RelN E s s') {H H1 : RW} {nx : Next} {w : World} (hR : Rep X base E H w) (e : sv P base s H = some (nx, H1)) : Does P X base E w nx H1 s' :=
  h H H1 nx w hR e
theorem Does.pure [Ltr] {H : RW} {v v' : Value} {w : World} {s' : Sem Next} (hR : Rep X base E H w) (hv : Rel E v v') (hr : s'.run P w = .ok (.value v') w) : Does P X base E w (.value v) H s' :=
  ⟨E, .value v', w, hr, Ext.refl E, hR, Kp.refl _ _, hv⟩
/-- flat, or parts that are -/
def fl2 (v : Value) : Bool :=
  match v with
  | .agg ⟨l⟩ => l.all flat
  | v => flat v
theorem RelL.flat_eq [Ltr] : ∀ {l l' : List Value}, l.all flat = true → RelL E l l' → l' = l
  | _, _, _, .nil => rfl
  | _, _, h, .cons r t => by
    simp only [List.all_cons, Bool.and_eq_true] at h
    rw [r.flat_eq h.1, RelL.flat_eq h.2 t]
theorem Rel.fl2_eq [Ltr] {v v' : Value} (h : fl2 v = true) (r : Rel E v v') : v' = v := by
  cases r with
  | agg hl => rw [RelL.flat_eq h hl]
  | same hf => rfl
  | tuple hl => exact Rel.flat_eq (E := E) h (.tuple hl)
  | func h1 h2 => exact Rel.flat_eq (E := E) h (.func h1 h2)
  | _ => cases h
def flatc (P : Program) (ρ : Operand → Value) (o : Oper) (H : RW) : Option (Next × RW) :=
  bif o.op.operands.toList.all (fun x => fl2 (ρ x)) then match svp P (execOp ρ o) with
    | some (.value v) => bif flat v then some (.value v, H) else none
    | _ => none
  else none
theorem map_eq_of {ρ ρ' : Operand → Value} (l : Array Operand) (h : ∀ x ∈ l, ρ x = ρ' x) : l.map ρ = l.map ρ' := Array.map_congr_left h
def flatOp : Op → Bool
  | .binOp .. | .unOp .. | .convert .. | .index .. | .slice .. | .makeInterface .. => true
  | .call c => match c.callee with
    | .value _ | .builtin _ => true
    | _ => false
  | _ => false
theorem exec_congr [Ltr] {ρ ρ' : Operand → Value} {o : Oper} (hk : flatOp o.op = true) (h : ∀ x ∈ o.op.operands, ρ x = ρ' x) : execOp ρ o = execOp ρ' o := by
  cases ho : o.op with
  | binOp op t x y t' => simp only [ho, Op.operands] at h; simp only [execOp, ho, h x (by simp), h y (by simp)]
  | unOp op t x => simp only [ho, Op.operands] at h; simp only [execOp, ho, h x (by simp)]
  | convert s d x => simp only [ho, Op.operands] at h; simp only [execOp, ho, h x (by simp)]
  | makeInterface t x => simp only [ho, Op.operands] at h; simp only [execOp, ho, h x (by simp)]
  | index t x y => simp only [ho, Op.operands] at h; simp only [execOp, ho, h x (by simp), h y (by simp)]
  | slice t x lo hi mx =>
    simp only [ho, Op.operands] at h
    have e1 : lo.map ρ = lo.map ρ' := by cases lo with
      | none => rfl
      | some y => simp [h y (by simp)]
    have e2 : hi.map ρ = hi.map ρ' := by cases hi with
      | none => rfl
      | some y => simp [h y (by simp)]
    have e3 : mx.map ρ = mx.map ρ' := by cases mx with
      | none => rfl
      | some y => simp [h y (by simp)]
    simp only [execOp, ho, h x (by simp), e1, e2, e3]
  | call c =>
    simp only [ho, Op.operands, Call.operands] at h
    have e1 : c.args.map ρ = c.args.map ρ' := map_eq_of _ fun x hx => h x (by simp [hx])
    simp only [execOp, ho, resolve, e1]
    cases hc : c.callee with
    | value f => simp only [hc] at h; dsimp only; rw [h f (by simp)]
    | builtin b => rfl
    | invoke r n => rw [ho] at hk; simp [flatOp, hc] at hk
  | _ => rw [ho] at hk; cases hk
theorem flatc_sound [Ltr] {ρ ρ' : Operand → Value} {o : Oper} {H H1 : RW} {nx : Next} {w : World} (hk : flatOp o.op = true) (hρ : ∀ x ∈ o.op.operands, Rel E (ρ x) (ρ' x)) (hR : Rep X base E H w)
    (e : flatc P ρ o H = some (nx, H1)) : Does P X base E w nx H1 (execOp ρ' o) := by
  unfold flatc at e
  cases hc : (o.op.operands.toList.all fun x => fl2 (ρ x)) with
  | false => rw [hc] at e; cases e
  | true =>
    rw [hc] at e
    have hall : ∀ x ∈ o.op.operands, fl2 (ρ x) = true := fun x hx => List.all_eq_true.1 hc x (by simpa using hx)
    have he : execOp ρ o = execOp ρ' o := exec_congr hk fun x hx => ((hρ x hx).fl2_eq (hall x hx)).symm
    cases hs : svp P (execOp ρ o) with
    | none => rw [hs] at e; cases e
    | some n =>
      rw [hs] at e
      cases n with
      | value v =>
        dsimp only [cond_true] at e
        cases hf : flat v with
        | false => rw [hf] at e; cases e
        | true =>
          rw [hf] at e
          obtain ⟨rfl, rfl⟩ := Prod.mk.inj (Option.some.inj e)
          exact Does.pure hR (.same hf) (by rw [← he]; exact svp_run w hs)
      | _ => cases e
theorem built_rel [Ltr] {t : TypeId} {l l' : List (Nat × Value)} {r : Array Value} (hz : zfl P t = true) (h : RelP E l l') (e : P.built t l = some r) : ∃ r', P.built t l' = some r' ∧ RelAr E r r' := by
  have zr : ∀ it z, P.info? t = some it → it.zero = some z → RelAr E z.cells z.cells := by
    intro it z hi hz'
    obtain ⟨z2, e2, r2⟩ := zfl_rel hz
    have : svp P (zeroValue t) = some z := by
      show svp P (Sem.bind (Go.typeInfo t) _) = some z
      rw [svp_bind (a := it) (by
        show svp P (Sem.bind Go.program _) = some it
        rw [svp_bind (a := P) rfl, hi]; rfl), hz']
      rfl
    rw [this] at e2
    obtain rfl := Option.some.inj e2
    refine (r2 E).cells ?_
    have h2 := zfl_top hz
    rw [this] at h2
    exact h2
  unfold Program.built at e ⊢
  cases hi : P.info? t with
  | none => rw [hi] at e; cases e
  | some it =>
    cases hu : P.underlying t with
    | none => rw [hi, hu] at e; cases e
    | some d =>
      rw [hi, hu] at e
      cases d with
      | array n el =>
        dsimp only at e ⊢
        cases hz' : it.zero with
        | none => rw [hz'] at e; cases e
        | some z =>
          cases hie : P.info? el with
          | none => rw [hz', hie] at e; cases e
          | some ie =>
            rw [hz', hie] at e
            exact fill_rel h (zr it z hi hz') e
      | struct fs =>
        dsimp only at e ⊢
        cases hz' : it.zero with
        | none => rw [hz'] at e; cases e
        | some z =>
          cases hp : fs.toList.mapM (fun f => (P.info? f.type).map fun i => (f.offset, i.size)) with
          | none => rw [hz', hp] at e; cases e
          | some places =>
            rw [hz', hp] at e
            exact fill_rel h (zr it z hi hz') e
      | _ => cases e
def noTops : List (Nat × Value) → Bool
  | [] => true
  | x :: l => bif isTop x.2 then false else noTops l
theorem RelP.of [Ltr] {ρ ρ' : Operand → Value} : ∀ {l : List (Nat × Operand)}, noTops (l.map fun x => (x.1, ρ x.2)) = true → (∀ x ∈ l, Rel E (ρ x.2) (ρ' x.2)) → RelP E (l.map fun x => (x.1, ρ x.2)) (l.map fun x => (x.1, ρ' x.2))
  | [], _, _ => .nil
  | x :: l, ht, h => by
    simp only [List.map_cons, noTops] at ht
    cases hx : isTop (ρ x.2) with
    | true => rw [hx] at ht; cases ht
    | false =>
      rw [hx] at ht
      exact .cons (h x (by simp)) hx (RelP.of ht fun y hy => h y (by simp [hy]))
theorem RelL.of [Ltr] {ρ ρ' : Operand → Value} : ∀ {l : List Operand}, (∀ x ∈ l, Rel E (ρ x) (ρ' x)) → RelL E (l.map ρ) (l.map ρ')
  | [], _ => .nil
  | x :: l, h => .cons (h x (by simp)) (RelL.of fun y hy => h y (by simp [hy]))
/-- the cells of a slice literal -/
def bsl (P : Program) (t : TypeId) (len : Nat) (parts : List (Nat × Value)) : Option (TypeId × Array Value) :=
  match P.underlying t with
  | some (.slice e) => match P.info? e with
    | some ie => match ie.zero with
      | some z => bif Nat.beq len 0 then match parts with
          | [] => some (e, #[])
          | _ => none
        else
        let zs := (Array.range (len * ie.size)).map (z.cells[· % z.cells.size]!)
        bif Nat.ble (len * ie.size) 16777216 && Nat.blt 0 (len * ie.size) && zs.toList.all flat && Nat.blt len big then (Instr.fill (fun i => some (i * ie.size, ie.size)) zs parts).map (e, ·) else none
      | none => none
    | none => none
  | _ => none
theorem bsl_rel [Ltr] {t e : TypeId} {len : Nat} {l : List (Nat × Value)} {parts' : Array (Nat × Value)} {r : Array Value} (h : RelP E l parts'.toList) (hb : bsl P t len l = some (e, r)) (w : World) :
    ∃ r', (Instr.buildSlice t len parts').run P w = .ok (.slice (some ⟨w.heap.size, 0, none⟩) len len) (w.alloc (.cells r' e)) ∧ RelAr E r r' ∧ Nat.blt len big = true := by
  unfold bsl at hb
  cases hu : P.underlying t with
  | none => rw [hu] at hb; cases hb
  | some d =>
    rw [hu] at hb
    cases d with
    | slice e0 =>
      dsimp only at hb
      cases hie : P.info? e0 with
      | none => rw [hie] at hb; cases hb
      | some ie =>
        rw [hie] at hb
        dsimp only at hb
        cases hz : ie.zero with
        | none => rw [hz] at hb; cases hb
        | some z =>
          rw [hz] at hb
          dsimp only at hb
          cases hl0 : Nat.beq len 0 with
          | true =>
            rw [hl0] at hb
            dsimp only [cond_true] at hb
            obtain rfl := Nat.eq_of_beq_eq_true hl0
            split at hb
            · obtain ⟨rfl, rfl⟩ := Prod.mk.inj (Option.some.inj hb)
              refine ⟨#[], ?_, .nil, rfl⟩
              have hp : parts' = #[] := by
                apply Array.ext'
                cases hq : parts'.toList with
                | nil => rfl
                | cons a l => rw [hq] at h; cases h
              subst hp
              simp [Instr.buildSlice, run_underlying hu, sizeOf, typeInfo, hie, newRow, Instr.fill, Array.range_zero']
            · cases hb
          | false =>
          rw [hl0] at hb
          dsimp only [cond_false] at hb
          cases hc : (Nat.ble (len * ie.size) 16777216 && Nat.blt 0 (len * ie.size) && ((Array.range (len * ie.size)).map (z.cells[· % z.cells.size]!)).toList.all flat && Nat.blt len big) with
          | false => rw [hc] at hb; cases hb
          | true =>
            rw [hc] at hb
            simp only [Bool.and_eq_true] at hc
            obtain ⟨⟨⟨c1, c2⟩, c3⟩, c4⟩ := hc
            cases hf : Instr.fill (fun i => some (i * ie.size, ie.size)) ((Array.range (len * ie.size)).map (z.cells[· % z.cells.size]!)) l with
            | none => rw [hf] at hb; cases hb
            | some cells =>
              rw [hf] at hb
              obtain ⟨rfl, rfl⟩ := Prod.mk.inj (Option.some.inj hb)
              obtain ⟨r', hr', hrel⟩ := fill_rel h (RelL.flats c3) hf
              have c1' := Nat.le_of_ble_eq_true c1
              have c2' : 0 < len * ie.size := Nat.le_of_ble_eq_true c2
              exact ⟨r', run_buildSlice w t e0 len parts' r' ie z hu hie hz (by omega) (by omega) hr', hrel, c4⟩
    | _ => cases hb
def callOk (P : Program) (g : FuncId) : Bool :=
  match P.funcs[g]? with
  | some fn => fn.body.isSome && !(fn.name == "runtime.NumGoroutine")
  | none => false
theorem run_callFunc_of {g : FuncId} {args : Array Value} (h : callOk P g = true) (w : World) : (callFunc g args).run P w = .ok (.enter g args) w := by
  unfold callOk at h
  cases hf : P.funcs[g]? with
  | none => rw [hf] at h; cases h
  | some fn =>
    rw [hf] at h
    simp only [Bool.and_eq_true, Bool.not_eq_true'] at h
    have hb : fn.body ≠ none := fun hb => by rw [hb] at h; cases h.1
    have hn : fn.name ≠ "runtime.NumGoroutine" := by simpa using h.2
    simp [callFunc, Go.program, Sem.run, hf, hn, hb]
/-- is it nil? -/
def nilcmp (P : Program) (op : BinOp) (t : TypeId) (x y : Value) : Option Bool :=
  match op, svp P (Go.underlying t), x, y with
  | .eql, some (.slice _), .slice (some _) _ _, .slice none _ _ => some false
  | .neq, some (.slice _), .slice (some _) _ _, .slice none _ _ => some true
  | .eql, some (.pointer _), .pointer (some _), .pointer none => some false
  | .neq, some (.pointer _), .pointer (some _), .pointer none => some true
  | .eql, some (.func _ _ _), .func _ _ _, .nilFunc => some false
  | .neq, some (.func _ _ _), .func _ _ _, .nilFunc => some true
  | .eql, some (.map _ _), .map (some _), .map none => some false
  | .neq, some (.map _ _), .map (some _), .map none => some true
  | _, _, _, _ => none
end
end Go.Proofs.YtkhmbphcjacgnaaGreatDoor
