/-
  A run by reckoning, part 5: an operation, whatever its kind.
-/
import Derived.Test.YtnggajehngemmaaGreatDoorEv4
import Derived.Great.BuildSlice
import Derived.ArgAppend
import Derived.Laws.MakeOwn
import Derived.Laws.BytesString
namespace Go.Proofs.YtnggajehngemmaaGreatDoor
open Go Go.RowKit
section
variable {P : Program} {X : Kep} {base : Nat} {E : Ren} {α β γ δ : Type}
/-- what an operation over names has come to, an operation over memory comes to as well -/
def Does [Ltr] (P : Program) (X : Kep) (base : Nat) (E : Ren) (w : World) (nx : Next) (H1 : RW) (s' : Sem Next) : Prop :=
  ∃ F nx' w', s'.run P w = .ok nx' w' ∧ Ext E F ∧ Rep X base F H1 w' ∧ Kp X w w' ∧ RelN F nx nx'
theorem Does.of [Ltr] {s s' : Sem Next} (h : Snd P X base RelN E s s') {H H1 : RW} {nx : Next} {w : World} (hR : Rep X base E H w) (e : sv P base s H = some (nx, H1)) : Does P X base E w nx H1 s' :=
  h H H1 nx w hR e
theorem Does.pure [Ltr] {H : RW} {v v' : Value} {w : World} {s' : Sem Next} (hR : Rep X base E H w) (hv : Rel E v v') (hr : s'.run P w = .ok (.value v') w) : Does P X base E w (.value v) H s' :=
  ⟨E, .value v', w, hr, Ext.refl E, hR, Kp.refl _ _, hv⟩
/-- flat, or parts that are -/
def fl2 (v : Value) : Bool :=
  match v with
  | .agg ⟨l⟩ => l.all flat
  | v => flat v
theorem RelL.flat_eq [Ltr] : ∀ {l l' : List Value}, l.all flat = true → RelL E l l' → l' = l
  | _, _, _, .nil => rfl
  | _, _, h, .cons r t => by
    simp only [List.all_cons, Bool.and_eq_true] at h
    rw [r.flat_eq h.1, RelL.flat_eq h.2 t]
theorem Rel.fl2_eq [Ltr] {v v' : Value} (h : fl2 v = true) (r : Rel E v v') : v' = v := by
  cases r with
  | agg hl => rw [RelL.flat_eq h hl]
  | same hf => rfl
  | tuple hl => exact Rel.flat_eq (E := E) h (.tuple hl)
  | func h1 h2 => exact Rel.flat_eq (E := E) h (.func h1 h2)
  | _ => cases h
def flatc (P : Program) (ρ : Operand → Value) (o : Oper) (H : RW) : Option (Next × RW) :=
  bif o.op.operands.toList.all (fun x => fl2 (ρ x)) then match svp P (execOp ρ o) with
    | some (.value v) => bif flat v then some (.value v, H) else none
    | _ => none
  else none
theorem map_eq_of {ρ ρ' : Operand → Value} (l : Array Operand) (h : ∀ x ∈ l, ρ x = ρ' x) : l.map ρ = l.map ρ' := Array.map_congr_left h
def flatOp : Op → Bool
  | .binOp .. | .unOp .. | .convert .. | .index .. | .slice .. | .makeInterface .. => true
  | .call c => match c.callee with
    | .value _ | .builtin _ => true
    | _ => false
  | _ => false
theorem exec_congr [Ltr] {ρ ρ' : Operand → Value} {o : Oper} (hk : flatOp o.op = true) (h : ∀ x ∈ o.op.operands, ρ x = ρ' x) : execOp ρ o = execOp ρ' o := by
  cases ho : o.op with
  | binOp op t x y t' => simp only [ho, Op.operands] at h; simp only [execOp, ho, h x (by simp), h y (by simp)]
  | unOp op t x => simp only [ho, Op.operands] at h; simp only [execOp, ho, h x (by simp)]
  | convert s d x => simp only [ho, Op.operands] at h; simp only [execOp, ho, h x (by simp)]
  | makeInterface t x => simp only [ho, Op.operands] at h; simp only [execOp, ho, h x (by simp)]
  | index t x y => simp only [ho, Op.operands] at h; simp only [execOp, ho, h x (by simp), h y (by simp)]
  | slice t x lo hi mx =>
    simp only [ho, Op.operands] at h
    have e1 : lo.map ρ = lo.map ρ' := by cases lo with
      | none => rfl
      | some y => simp [h y (by simp)]
    have e2 : hi.map ρ = hi.map ρ' := by cases hi with
      | none => rfl
      | some y => simp [h y (by simp)]
    have e3 : mx.map ρ = mx.map ρ' := by cases mx with
      | none => rfl
      | some y => simp [h y (by simp)]
    simp only [execOp, ho, h x (by simp), e1, e2, e3]
  | call c =>
    simp only [ho, Op.operands, Call.operands] at h
    have e1 : c.args.map ρ = c.args.map ρ' := map_eq_of _ fun x hx => h x (by simp [hx])
    simp only [execOp, ho, resolve, e1]
    cases hc : c.callee with
    | value f => simp only [hc] at h; dsimp only; rw [h f (by simp)]
    | builtin b => rfl
    | invoke r n => rw [ho] at hk; simp [flatOp, hc] at hk
  | _ => rw [ho] at hk; cases hk
theorem flatc_sound [Ltr] {ρ ρ' : Operand → Value} {o : Oper} {H H1 : RW} {nx : Next} {w : World} (hk : flatOp o.op = true) (hρ : ∀ x ∈ o.op.operands, Rel E (ρ x) (ρ' x)) (hR : Rep X base E H w)
    (e : flatc P ρ o H = some (nx, H1)) : Does P X base E w nx H1 (execOp ρ' o) := by
  unfold flatc at e
  cases hc : (o.op.operands.toList.all fun x => fl2 (ρ x)) with
  | false => rw [hc] at e; cases e
  | true =>
    rw [hc] at e
    have hall : ∀ x ∈ o.op.operands, fl2 (ρ x) = true := fun x hx => List.all_eq_true.1 hc x (by simpa using hx)
    have he : execOp ρ o = execOp ρ' o := exec_congr hk fun x hx => ((hρ x hx).fl2_eq (hall x hx)).symm
    cases hs : svp P (execOp ρ o) with
    | none => rw [hs] at e; cases e
    | some n =>
      rw [hs] at e
      cases n with
      | value v =>
        dsimp only [cond_true] at e
        cases hf : flat v with
        | false => rw [hf] at e; cases e
        | true =>
          rw [hf] at e
          obtain ⟨rfl, rfl⟩ := Prod.mk.inj (Option.some.inj e)
          exact Does.pure hR (.same hf) (by rw [← he]; exact svp_run w hs)
      | _ => cases e
theorem built_rel [Ltr] {t : TypeId} {l l' : List (Nat × Value)} {r : Array Value} (hz : zfl P t = true) (h : RelP E l l') (e : P.built t l = some r) : ∃ r', P.built t l' = some r' ∧ RelAr E r r' := by
  have zr : ∀ it z, P.info? t = some it → it.zero = some z → RelAr E z.cells z.cells := by
    intro it z hi hz'
    obtain ⟨z2, e2, r2⟩ := zfl_rel hz
    have : svp P (zeroValue t) = some z := by
      show svp P (Sem.bind (Go.typeInfo t) _) = some z
      rw [svp_bind (a := it) (by
        show svp P (Sem.bind Go.program _) = some it
        rw [svp_bind (a := P) rfl, hi]; rfl), hz']
      rfl
    rw [this] at e2
    obtain rfl := Option.some.inj e2
    refine (r2 E).cells ?_
    have h2 := zfl_top hz
    rw [this] at h2
    exact h2
  unfold Program.built at e ⊢
  cases hi : P.info? t with
  | none => rw [hi] at e; cases e
  | some it =>
    cases hu : P.underlying t with
    | none => rw [hi, hu] at e; cases e
    | some d =>
      rw [hi, hu] at e
      cases d with
      | array n el =>
        dsimp only at e ⊢
        cases hz' : it.zero with
        | none => rw [hz'] at e; cases e
        | some z =>
          cases hie : P.info? el with
          | none => rw [hz', hie] at e; cases e
          | some ie =>
            rw [hz', hie] at e
            exact fill_rel h (zr it z hi hz') e
      | struct fs =>
        dsimp only at e ⊢
        cases hz' : it.zero with
        | none => rw [hz'] at e; cases e
        | some z =>
          cases hp : fs.toList.mapM (fun f => (P.info? f.type).map fun i => (f.offset, i.size)) with
          | none => rw [hz', hp] at e; cases e
          | some places =>
            rw [hz', hp] at e
            exact fill_rel h (zr it z hi hz') e
      | _ => cases e
def noTops : List (Nat × Value) → Bool
  | [] => true
  | x :: l => bif isTop x.2 then false else noTops l
theorem RelP.of [Ltr] {ρ ρ' : Operand → Value} : ∀ {l : List (Nat × Operand)}, noTops (l.map fun x => (x.1, ρ x.2)) = true → (∀ x ∈ l, Rel E (ρ x.2) (ρ' x.2)) → RelP E (l.map fun x => (x.1, ρ x.2)) (l.map fun x => (x.1, ρ' x.2))
  | [], _, _ => .nil
  | x :: l, ht, h => by
    simp only [List.map_cons, noTops] at ht
    cases hx : isTop (ρ x.2) with
    | true => rw [hx] at ht; cases ht
    | false =>
      rw [hx] at ht
      exact .cons (h x (by simp)) hx (RelP.of ht fun y hy => h y (by simp [hy]))
theorem RelL.of [Ltr] {ρ ρ' : Operand → Value} : ∀ {l : List Operand}, (∀ x ∈ l, Rel E (ρ x) (ρ' x)) → RelL E (l.map ρ) (l.map ρ')
  | [], _ => .nil
  | x :: l, h => .cons (h x (by simp)) (RelL.of fun y hy => h y (by simp [hy]))
/-- the cells of a slice literal -/
def bsl (P : Program) (t : TypeId) (len : Nat) (parts : List (Nat × Value)) : Option (TypeId × Array Value) :=
  match P.underlying t with
  | some (.slice e) => match P.info? e with
    | some ie => match ie.zero with
      | some z => bif Nat.beq len 0 then match parts with
          | [] => some (e, #[])
          | _ => none
        else
        let zs := (Array.range (len * ie.size)).map (z.cells[· % z.cells.size]!)
        bif Nat.ble (len * ie.size) 16777216 && Nat.blt 0 (len * ie.size) && zs.toList.all flat && Nat.blt len big then (Instr.fill (fun i => some (i * ie.size, ie.size)) zs parts).map (e, ·) else none
      | none => none
    | none => none
  | _ => none
theorem bsl_rel [Ltr] {t e : TypeId} {len : Nat} {l : List (Nat × Value)} {parts' : Array (Nat × Value)} {r : Array Value} (h : RelP E l parts'.toList) (hb : bsl P t len l = some (e, r)) (w : World) :
    ∃ r', (Instr.buildSlice t len parts').run P w = .ok (.slice (some ⟨w.heap.size, 0, none⟩) len len) (w.alloc (.cells r' e)) ∧ RelAr E r r' ∧ Nat.blt len big = true := by
  unfold bsl at hb
  cases hu : P.underlying t with
  | none => rw [hu] at hb; cases hb
  | some d =>
    rw [hu] at hb
    cases d with
    | slice e0 =>
      dsimp only at hb
      cases hie : P.info? e0 with
      | none => rw [hie] at hb; cases hb
      | some ie =>
        rw [hie] at hb
        dsimp only at hb
        cases hz : ie.zero with
        | none => rw [hz] at hb; cases hb
        | some z =>
          rw [hz] at hb
          dsimp only at hb
          cases hl0 : Nat.beq len 0 with
          | true =>
            rw [hl0] at hb
            dsimp only [cond_true] at hb
            obtain rfl := Nat.eq_of_beq_eq_true hl0
            split at hb
            · obtain ⟨rfl, rfl⟩ := Prod.mk.inj (Option.some.inj hb)
              refine ⟨#[], ?_, .nil, rfl⟩
              have hp : parts' = #[] := by
                apply Array.ext'
                cases hq : parts'.toList with
                | nil => rfl
                | cons a l => rw [hq] at h; cases h
              subst hp
              simp [Instr.buildSlice, run_underlying hu, sizeOf, typeInfo, hie, newRow, Instr.fill, Array.range_zero']
            · cases hb
          | false =>
          rw [hl0] at hb
          dsimp only [cond_false] at hb
          cases hc : (Nat.ble (len * ie.size) 16777216 && Nat.blt 0 (len * ie.size) && ((Array.range (len * ie.size)).map (z.cells[· % z.cells.size]!)).toList.all flat && Nat.blt len big) with
          | false => rw [hc] at hb; cases hb
          | true =>
            rw [hc] at hb
            simp only [Bool.and_eq_true] at hc
            obtain ⟨⟨⟨c1, c2⟩, c3⟩, c4⟩ := hc
            cases hf : Instr.fill (fun i => some (i * ie.size, ie.size)) ((Array.range (len * ie.size)).map (z.cells[· % z.cells.size]!)) l with
            | none => rw [hf] at hb; cases hb
            | some cells =>
              rw [hf] at hb
              obtain ⟨rfl, rfl⟩ := Prod.mk.inj (Option.some.inj hb)
              obtain ⟨r', hr', hrel⟩ := fill_rel h (RelL.flats c3) hf
              have c1' := Nat.le_of_ble_eq_true c1
              have c2' : 0 < len * ie.size := Nat.le_of_ble_eq_true c2
              exact ⟨r', run_buildSlice w t e0 len parts' r' ie z hu hie hz (by omega) (by omega) hr', hrel, c4⟩
    | _ => cases hb
def callOk (P : Program) (g : FuncId) : Bool :=
  match P.funcs[g]? with
  | some fn => fn.body.isSome && !(fn.name == "runtime.NumGoroutine")
  | none => false
theorem run_callFunc_of {g : FuncId} {args : Array Value} (h : callOk P g = true) (w : World) : (callFunc g args).run P w = .ok (.enter g args) w := by
  unfold callOk at h
  cases hf : P.funcs[g]? with
  | none => rw [hf] at h; cases h
  | some fn =>
    rw [hf] at h
    simp only [Bool.and_eq_true, Bool.not_eq_true'] at h
    have hb : fn.body ≠ none := fun hb => by rw [hb] at h; cases h.1
    have hn : fn.name ≠ "runtime.NumGoroutine" := by simpa using h.2
    simp [callFunc, Go.program, Sem.run, hf, hn, hb]
/-- is it nil? -/
def nilcmp (P : Program) (op : BinOp) (t : TypeId) (x y : Value) : Option Bool :=
  match op, svp P (Go.underlying t), x, y with
  | .eql, some (.slice _), .slice (some _) _ _, .slice none _ _ => some false
  | .neq, some (.slice _), .slice (some _) _ _, .slice none _ _ => some true
  | .eql, some (.pointer _), .pointer (some _), .pointer none => some false
  | .neq, some (.pointer _), .pointer (some _), .pointer none => some true
  | .eql, some (.func _ _ _), .func (.func _) _ _, .nilFunc => some false
  | .neq, some (.func _ _ _), .func (.func _) _ _, .nilFunc => some true
  | .eql, some (.map _ _), .map (some _), .map none => some false
  | .neq, some (.map _ _), .map (some _), .map none => some true
  | _, _, _, _ => none
end
end Go.Proofs.YtnggajehngemmaaGreatDoor
/-
  A run by reckoning, part 6: every operation, over names and over memory.
-/
namespace Go.Proofs.YtnggajehngemmaaGreatDoor
open Go Go.RowKit
def evOp (P : Program) (base : Nat) (ρ : Operand → Value) (o : Oper) (H : RW) : Option (Next × RW) :=
  match o.op with
  | .move x | .assign x => some (.value (ρ x), H)
  | .pick c a b => match ρ c with
    | .bool t => some (.value (bif t then ρ a else ρ b), H)
    | _ => none
  | .alloc t => bif zfl P t then sv P base (execOp ρ o) H else none
  | .box _ x => bif isTop (ρ x) then none else sv P base (execOp ρ o) H
  | .store _ _ x => bif isTop (ρ x) then none else sv P base (execOp ρ o) H
  | .load .. | .field .. | .extract .. | .indexAddr .. => sv P base (execOp ρ o) H
  | .fieldAddr t _ f => bif fokAt P t f then sv P base (execOp ρ o) H else none
  | .build t parts => bif zfl P t && noTops (parts.toList.map fun x => (x.1, ρ x.2)) then match P.built t (parts.toList.map fun x => (x.1, ρ x.2)) with
      | some c => some (.value (.agg c), H)
      | none => none
    else none
  | .buildSlice t len parts => bif noTops (parts.toList.map fun x => (x.1, ρ x.2)) then match bsl P t len (parts.toList.map fun x => (x.1, ρ x.2)) with
    | some (e, c) => some (.value (.slice (some ⟨H.n, 0, none⟩) len len), H.push (.row c.toList e))
    | none => none
    else none
  | .nilCheck x => match ρ x with
    | .pointer (some a) => some (.value (.pointer (some a)), H)
    | .slice a n c => some (.value (.slice a n c), H)
    | .func (.func g) x y => some (.value (.func (.func g) x y), H)
    | _ => none
  | .makeFunc (.func g) first captured => some (.value (.func (.func g) ⟨first.toList.map ρ⟩ ⟨captured.toList.map ρ⟩), H)
  | .makeInterface t x => match svp P (Go.underlying t) with
    | some (.interface _) => none
    | some _ => some (.value (.iface t (ρ x)), H)
    | none => none
  | .slice t x lo hi mx => bif flat (ρ x) then flatc P ρ o H else
      bif (match ρ x with | .slice _ _ c => Nat.blt c big | _ => true) && (lo.toList ++ hi.toList ++ mx.toList).all (fun y => flat (ρ y)) then
        match sv P base (Instr.sliceAt t (ρ x) (lo.map ρ) (hi.map ρ) (mx.map ρ)) H with
        | some (v, H1) => bif okSl v then some (.value v, H1) else none
        | none => none
      else none
  | .binOp op t x y _ => bif fl2 (ρ x) && fl2 (ρ y) then flatc P ρ o H else match nilcmp P op t (ρ x) (ρ y) with
    | some b => some (.value (.bool b), H)
    | none => none
  | .unOp .. | .convert .. => flatc P ρ o H
  | .index _ x _ => bif flat (ρ x) then flatc P ρ o H else sv P base (execOp ρ o) H
  | .call c => match c.callee with
    | .value f => match ρ f with
      | .func (.func g) first captured => bif callOk P g then some (.enter g (first ++ ⟨c.args.toList.map ρ⟩ ++ captured), H) else flatc P ρ o H
      | _ => none
    | .builtin .len => match c.args.toList, c.argTypes.toList with
      | [x], [t] => match ρ x, svp P (Go.underlying t) with
        | .slice (some _) n _, some (.slice _) => some (.value (.int .i64 n), H)
        | _, _ => flatc P ρ o H
      | _, _ => none
    | .builtin .min | .builtin .max => flatc P ρ o H
    | _ => none
  | _ => none
section
variable {P : Program} {X : Kep} {base : Nat} {E : Ren}
theorem eq_slice [Ltr] {t el : TypeId} {a : Addr} {n c n' c' : Nat} {w : World} (hu : svp P (Go.underlying t) = some (.slice el)) : (Op.equal t (.slice (some a) n c) (.slice none n' c')).run P w = .ok false w := by
  show (Op.equalIn (9999 + 1) t _ _).run P w = _
  rw [Op.equalIn, Sem.run_bind, svp_run w hu]
  rfl
theorem eq_ptr [Ltr] {t el : TypeId} {a : Addr} {w : World} (hu : svp P (Go.underlying t) = some (.pointer el)) : (Op.equal t (.pointer (some a)) (.pointer none)).run P w = .ok false w := by
  show (Op.equalIn (9999 + 1) t _ _).run P w = _
  rw [Op.equalIn, Sem.run_bind, svp_run w hu]
  rfl
theorem eq_map [Ltr] {t k el : TypeId} {a : Nat} {w : World} (hu : svp P (Go.underlying t) = some (.map k el)) : (Op.equal t (.map (some a)) (.map none)).run P w = .ok false w := by
  show (Op.equalIn (9999 + 1) t _ _).run P w = _
  rw [Op.equalIn, Sem.run_bind, svp_run w hu]
  rfl
theorem eq_func [Ltr] {t : TypeId} {p r : Array TypeId} {v : Bool} {f : Fn} {x y : Array Value} {w : World} (hu : svp P (Go.underlying t) = some (.func p r v)) : (Op.equal t (.func f x y) .nilFunc).run P w = .ok false w := by
  show (Op.equalIn (9999 + 1) t _ _).run P w = _
  rw [Op.equalIn, Sem.run_bind, svp_run w hu]
  rfl
theorem eql_run {t : TypeId} {x y : Value} {xo yo : Operand} {w : World} (hg : eqGuard .eql t xo yo x y = Pure.pure ()) (hb : binOp .eql t x y = (Op.equal t x y >>= fun b => Pure.pure (Value.bool b))) (h : (Op.equal t x y).run P w = .ok false w) :
    (do eqGuard .eql t xo yo x y; binOp .eql t x y : Sem Value).run P w = .ok (.bool false) w := by
  rw [hg, hb, Sem.run_bind, Sem.run_pure, Result.andThen_ok, Sem.run_bind, h]
  rfl
theorem neq_run {t : TypeId} {x y : Value} {xo yo : Operand} {w : World} (hg : eqGuard .neq t xo yo x y = Pure.pure ()) (hb : binOp .neq t x y = (Op.equal t x y >>= fun b => Pure.pure (Value.bool (!b)))) (h : (Op.equal t x y).run P w = .ok false w) :
    (do eqGuard .neq t xo yo x y; binOp .neq t x y : Sem Value).run P w = .ok (.bool true) w := by
  rw [hg, hb, Sem.run_bind, Sem.run_pure, Result.andThen_ok, Sem.run_bind, h]
  rfl
theorem nilcmp_run [Ltr] {op : BinOp} {t : TypeId} {x y x' y' : Value} {b : Bool} {xo yo : Operand} (h : nilcmp P op t x y = some b) (hx : Rel E x x') (hy : Rel E y y') (w : World) :
    (do eqGuard op t xo yo x' y'; binOp op t x' y' : Sem Value).run P w = .ok (.bool b) w := by
  unfold nilcmp at h
  split at h
  case h_1 hu => obtain rfl := Option.some.inj h; obtain rfl := hy.flat_eq rfl; cases hx with
    | sl _ => exact eql_run rfl rfl (eq_slice hu)
    | same hf => cases hf
  case h_2 hu => obtain rfl := Option.some.inj h; obtain rfl := hy.flat_eq rfl; cases hx with
    | sl _ => exact neq_run rfl rfl (eq_slice hu)
    | same hf => cases hf
  case h_3 hu => obtain rfl := Option.some.inj h; obtain rfl := hy.flat_eq rfl; cases hx with
    | ptr _ => exact eql_run rfl rfl (eq_ptr hu)
    | same hf => cases hf
  case h_4 hu => obtain rfl := Option.some.inj h; obtain rfl := hy.flat_eq rfl; cases hx with
    | ptr _ => exact neq_run rfl rfl (eq_ptr hu)
    | same hf => cases hf
  case h_5 hu => obtain rfl := Option.some.inj h; obtain rfl := hy.flat_eq rfl; cases hx with
    | func _ _ => exact eql_run rfl rfl (eq_func hu)
    | same hf => exact eql_run rfl rfl (eq_func hu)
  case h_6 hu => obtain rfl := Option.some.inj h; obtain rfl := hy.flat_eq rfl; cases hx with
    | func _ _ => exact neq_run rfl rfl (eq_func hu)
    | same hf => exact neq_run rfl rfl (eq_func hu)
  case h_7 hu => obtain rfl := Option.some.inj h; obtain rfl := hy.flat_eq rfl; cases hx with
    | map _ => exact eql_run rfl rfl (eq_map hu)
    | same hf => cases hf
  case h_8 hu => obtain rfl := Option.some.inj h; obtain rfl := hy.flat_eq rfl; cases hx with
    | map _ => exact neq_run rfl rfl (eq_map hu)
    | same hf => cases hf
  case h_9 => cases h
theorem mem_ops [Ltr] {o : Oper} {ρ ρ' : Operand → Value} (hρ : ∀ x ∈ o.op.operands, Rel E (ρ x) (ρ' x)) {l : Array Operand} (e : o.op.operands = l) {x : Operand} (h : x ∈ l) : Rel E (ρ x) (ρ' x) := hρ x (e ▸ h)
theorem run_value {s : Sem Value} {v : Value} {w w' : World} (h : s.run P w = .ok v w') : (do Pure.pure (Next.value (← s)) : Sem Next).run P w = .ok (.value v) w' := by
  rw [Sem.run_bind, h]
  rfl
theorem cond_someA {α : Type} {b : Bool} {x : Option α} {y : α} (h : (bif b then x else none) = some y) : b = true ∧ x = some y := by
  cases b with
  | true => exact ⟨rfl, h⟩
  | false => cases h
theorem evOp_sound [Ltr] {ρ ρ' : Operand → Value} {o : Oper} {H H1 : RW} {nx : Next} {w : World} (hρ : ∀ x ∈ o.op.operands, Rel E (ρ x) (ρ' x)) (hR : Rep X base E H w)
    (e : evOp P base ρ o H = some (nx, H1)) : Does P X base E w nx H1 (execOp ρ' o) := by
  have hm := fun l e x h => mem_ops (E := E) (o := o) hρ (l := l) e (x := x) h
  unfold evOp at e
  cases ho : o.op with
  | move x =>
    simp only [ho] at e
    obtain ⟨rfl, rfl⟩ := Prod.mk.inj (Option.some.inj e)
    exact Does.pure hR (hm #[x] (by rw [ho]; rfl) x (by simp)) (by simp [execOp, ho])
  | assign x =>
    simp only [ho] at e
    obtain ⟨rfl, rfl⟩ := Prod.mk.inj (Option.some.inj e)
    exact Does.pure hR (hm #[x] (by rw [ho]; rfl) x (by simp)) (by simp [execOp, ho])
  | pick c a b =>
    simp only [ho] at e
    have h1 := hm #[c, a, b] (by rw [ho]; rfl) c (by simp)
    have h2 := hm #[c, a, b] (by rw [ho]; rfl) a (by simp)
    have h3 := hm #[c, a, b] (by rw [ho]; rfl) b (by simp)
    cases hc : ρ c with
    | bool t =>
      rw [hc] at e h1
      obtain ⟨rfl, rfl⟩ := Prod.mk.inj (Option.some.inj e)
      have h1' := h1.bool
      cases t with
      | true => exact Does.pure hR h2 (by simp [execOp, ho, h1', asBool])
      | false => exact Does.pure hR h3 (by simp [execOp, ho, h1', asBool])
    | _ => rw [hc] at e; cases e
  | alloc t =>
    simp only [ho] at e
    cases hz : zfl P t with
    | false => rw [hz] at e; cases e
    | true =>
      rw [hz] at e
      refine Does.of ?_ hR e
      simp only [execOp, ho]
      exact Snd.value (Snd.alloc hz)
  | box t x =>
    simp only [ho] at e
    cases ht : isTop (ρ x) with
    | true => rw [ht] at e; cases e
    | false =>
      rw [ht] at e
      refine Does.of ?_ hR e
      simp only [execOp, ho]
      exact Snd.value (Snd.box (hm #[x] (by rw [ho]; rfl) x (by simp)) ht)
  | load t x =>
    simp only [ho] at e
    refine Does.of ?_ hR e
    simp only [execOp, ho]
    exact Snd.value (Snd.loadAt (hm #[x] (by rw [ho]; rfl) x (by simp)))
  | store t x y =>
    simp only [ho] at e
    cases ht : isTop (ρ y) with
    | true => rw [ht] at e; cases e
    | false =>
      rw [ht] at e
      refine Does.of ?_ hR e
      simp only [execOp, ho]
      exact Snd.unit (Snd.storeAt (hm #[x, y] (by rw [ho]; rfl) x (by simp)) (hm #[x, y] (by rw [ho]; rfl) y (by simp)) ht)
  | field t x f =>
    simp only [ho] at e
    refine Does.of ?_ hR e
    simp only [execOp, ho]
    exact Snd.value (Snd.field (hm #[x] (by rw [ho]; rfl) x (by simp)) f)
  | extract x i =>
    simp only [ho] at e
    refine Does.of ?_ hR e
    simp only [execOp, ho]
    exact Snd.value (Snd.extract (hm #[x] (by rw [ho]; rfl) x (by simp)) i)
  | indexAddr t x y =>
    simp only [ho] at e
    refine Does.of ?_ hR e
    simp only [execOp, ho]
    exact Snd.value (Snd.indexAt (hm #[x, y] (by rw [ho]; rfl) x (by simp)) (hm #[x, y] (by rw [ho]; rfl) y (by simp)))
  | fieldAddr t x f =>
    simp only [ho] at e
    cases hz : fokAt P t f with
    | false => rw [hz] at e; cases e
    | true =>
      rw [hz] at e
      refine Does.of ?_ hR e
      simp only [execOp, ho]
      exact Snd.value (Snd.fieldAt hz (hm #[x] (by rw [ho]; rfl) x (by simp)))
  | build t parts =>
    simp only [ho] at e
    cases hzz : (zfl P t && noTops (parts.toList.map fun x => (x.1, ρ x.2))) with
    | false => rw [hzz] at e; cases e
    | true =>
      rw [hzz] at e
      dsimp only [cond_true] at e
      simp only [Bool.and_eq_true] at hzz
      obtain ⟨hz, hnt⟩ := hzz
      cases hb : P.built t (parts.toList.map fun x => (x.1, ρ x.2)) with
      | none => rw [hb] at e; cases e
      | some c =>
        rw [hb] at e
        obtain ⟨rfl, rfl⟩ := Prod.mk.inj (Option.some.inj e)
        obtain ⟨r', hr', hrel⟩ := built_rel hz (RelP.of (ρ := ρ) (ρ' := ρ') (l := parts.toList) hnt fun x hx => hm (parts.toList.map (·.2)).toArray (by rw [ho]; rfl) x.2 (by simp; exact ⟨x.1, by simpa using hx⟩)) hb
        refine Does.pure hR (.agg hrel) ?_
        simp only [execOp, ho]
        refine run_value (run_build w t _ r' ?_)
        rw [← hr']
        congr 1
        simp
  | buildSlice t len parts =>
    simp only [ho] at e
    obtain ⟨hnt, e⟩ := cond_someA e
    cases hb : bsl P t len (parts.toList.map fun x => (x.1, ρ x.2)) with
    | none => rw [hb] at e; cases e
    | some p =>
      obtain ⟨el, c⟩ := p
      rw [hb] at e
      obtain ⟨rfl, rfl⟩ := Prod.mk.inj (Option.some.inj e)
      have hp := RelP.of (E := E) (ρ := ρ) (ρ' := ρ') (l := parts.toList) hnt fun x hx => hm (parts.toList.map (·.2)).toArray (by rw [ho]; rfl) x.2 (by simp; exact ⟨x.1, by simpa using hx⟩)
      obtain ⟨r', hr', hrel, hlen⟩ := bsl_rel (parts' := parts.map fun x => (x.1, ρ' x.2)) (by simpa using hp) hb w
      obtain ⟨p1, p2, p3⟩ := hR.push (o := .row c.toList el) (x := .cells r' el) (k := 0) (fun F x => ⟨r'.toList, rfl, RelL.mono x hrel⟩)
      refine ⟨_, .value (.slice (some ⟨w.heap.size, 0, none⟩) len len), _, ?_, p2, p1, p3, relSl ⟨_, _, _, _, rfl, rfl, Ren.at⟩ hlen⟩
      simp only [execOp, ho]
      exact run_value hr'
  | nilCheck x =>
    simp only [ho] at e
    have h1 := hm #[x] (by rw [ho]; rfl) x (by simp)
    cases hx : ρ x with
    | pointer a =>
      rw [hx] at e h1
      cases a with
      | none => cases e
      | some a =>
        obtain ⟨rfl, rfl⟩ := Prod.mk.inj (Option.some.inj e)
        refine Does.pure hR h1 ?_
        generalize hy : ρ' x = y at h1
        cases h1 with
        | same hf => cases hf
        | ptr _ => simp [execOp, ho, hy]
    | slice a n c =>
      rw [hx] at e h1
      obtain ⟨rfl, rfl⟩ := Prod.mk.inj (Option.some.inj e)
      refine Does.pure hR h1 ?_
      generalize hy : ρ' x = y at h1
      cases h1 with
      | same hf => simp [execOp, ho, hy]
      | sl _ => simp [execOp, ho, hy]
    | func f a b =>
      rw [hx] at e h1
      cases f with
      | func g =>
        obtain ⟨rfl, rfl⟩ := Prod.mk.inj (Option.some.inj e)
        refine Does.pure hR h1 ?_
        generalize hy : ρ' x = y at h1
        cases h1 with
        | same hf => simp [execOp, ho, hy]
        | func _ _ => simp [execOp, ho, hy]
      | _ => cases e
    | _ => rw [hx] at e; cases e
  | makeFunc f first captured =>
    simp only [ho] at e
    cases f with
    | func g =>
      obtain ⟨rfl, rfl⟩ := Prod.mk.inj (Option.some.inj e)
      have h1 : RelL E (first.toList.map ρ) (first.toList.map ρ') := RelL.of fun x hx => hm (first ++ captured) (by rw [ho]; rfl) x (by simp at hx ⊢; exact .inl hx)
      have h2 : RelL E (captured.toList.map ρ) (captured.toList.map ρ') := RelL.of fun x hx => hm (first ++ captured) (by rw [ho]; rfl) x (by simp at hx ⊢; exact .inr hx)
      refine Does.pure hR (.func h1 h2) ?_
      have e1 : first.map ρ' = ⟨first.toList.map ρ'⟩ := by apply Array.ext'; simp
      have e2 : captured.map ρ' = ⟨captured.toList.map ρ'⟩ := by apply Array.ext'; simp
      simp only [execOp, ho, Instr.makeFunc, e1, e2]
      rfl
    | _ => cases e
  | makeInterface t x =>
    simp only [ho] at e
    have h1 := hm #[x] (by rw [ho]; rfl) x (by simp)
    cases hu : svp P (Go.underlying t) with
    | none => rw [hu] at e; cases e
    | some d =>
      have hu' := svp_run w hu
      rw [hu] at e
      cases d with
      | interface m => cases e
      | _ =>
        obtain ⟨rfl, rfl⟩ := Prod.mk.inj (Option.some.inj e)
        refine Does.pure hR (.iface h1) ?_
        simp only [execOp, ho]
        refine run_value ?_
        simp [Instr.makeInterface, hu']
  | slice t x lo hi mx =>
    simp only [ho] at e
    cases hf : flat (ρ x) with
    | true => rw [hf] at e; exact flatc_sound (by rw [ho]; rfl) hρ hR e
    | false =>
      rw [hf] at e
      dsimp only [cond_false] at e
      cases hc : ((match ρ x with | .slice _ _ c => Nat.blt c big | _ => true) && (lo.toList ++ hi.toList ++ mx.toList).all (fun y => flat (ρ y))) with
      | false => rw [hc] at e; cases e
      | true =>
        rw [hc] at e
        dsimp only [cond_true] at e
        simp only [Bool.and_eq_true] at hc
        cases hs : sv P base (Instr.sliceAt t (ρ x) (lo.map ρ) (hi.map ρ) (mx.map ρ)) H with
        | none => rw [hs] at e; cases e
        | some p =>
          obtain ⟨v, H2⟩ := p
          rw [hs] at e
          dsimp only at e
          cases hk : okSl v with
          | false => rw [hk] at e; cases e
          | true =>
            rw [hk] at e
            obtain ⟨rfl, rfl⟩ := Prod.mk.inj (Option.some.inj e)
            have hl : ∀ y ∈ lo.toList ++ hi.toList ++ mx.toList, ρ' y = ρ y := fun y hy => by
              refine (hm (#[x] ++ lo.toArray ++ hi.toArray ++ mx.toArray) (by rw [ho]; rfl) y ?_).flat_eq (List.all_eq_true.1 hc.2 y hy)
              simp at hy ⊢
              rcases hy with h | h | h
              · exact .inr (.inl h)
              · exact .inr (.inr (.inl h))
              · exact .inr (.inr (.inr h))
            have e1 : lo.map ρ' = lo.map ρ := by cases lo with
              | none => rfl
              | some y => simp [hl y (by simp)]
            have e2 : hi.map ρ' = hi.map ρ := by cases hi with
              | none => rfl
              | some y => simp [hl y (by simp)]
            have e3 : mx.map ρ' = mx.map ρ := by cases mx with
              | none => rfl
              | some y => simp [hl y (by simp)]
            have hx := hm (#[x] ++ lo.toArray ++ hi.toArray ++ mx.toArray) (by rw [ho]; rfl) x (by simp)
            obtain ⟨F, v', w', hr, x1, R1, b1, rv⟩ := Snd.sliceAt hc.1 hf hx (lo.map ρ) (hi.map ρ) (mx.map ρ) H H2 v w hR hs
            refine ⟨F, .value v', w', ?_, x1, R1, b1, rv hk⟩
            simp only [execOp, ho, e1, e2, e3]
            exact run_value hr
  | binOp op t x y t' =>
    simp only [ho] at e
    cases hf : (fl2 (ρ x) && fl2 (ρ y)) with
    | true => rw [hf] at e; exact flatc_sound (by rw [ho]; rfl) hρ hR e
    | false =>
      rw [hf] at e
      dsimp only [cond_false] at e
      cases hn : nilcmp P op t (ρ x) (ρ y) with
      | none => rw [hn] at e; cases e
      | some b =>
        rw [hn] at e
        obtain ⟨rfl, rfl⟩ := Prod.mk.inj (Option.some.inj e)
        refine Does.pure hR (.same rfl) ?_
        simp only [execOp, ho]
        exact run_value (nilcmp_run hn (hm #[x, y] (by rw [ho]; rfl) x (by simp)) (hm #[x, y] (by rw [ho]; rfl) y (by simp)) w)
  | unOp op t x => simp only [ho] at e; exact flatc_sound (by rw [ho]; rfl) hρ hR e
  | convert s d x => simp only [ho] at e; exact flatc_sound (by rw [ho]; rfl) hρ hR e
  | index t x y =>
    simp only [ho] at e
    cases hf : flat (ρ x) with
    | true => rw [hf] at e; exact flatc_sound (by rw [ho]; rfl) hρ hR e
    | false =>
      rw [hf] at e
      refine Does.of ?_ hR e
      simp only [execOp, ho]
      exact Snd.value (Snd.index hf (hm #[x, y] (by rw [ho]; rfl) x (by simp)) (hm #[x, y] (by rw [ho]; rfl) y (by simp)))
  | call c =>
    simp only [ho] at e
    cases hc : c.callee with
    | value f =>
      simp only [hc] at e
      have hop : o.op.operands = #[f] ++ c.args := by rw [ho]; simp [Op.operands, Call.operands, hc]
      have hf1 := hm _ hop f (by simp)
      cases hf : ρ f with
      | func fn first captured =>
        rw [hf] at e hf1
        cases fn with
        | func g =>
          dsimp only at e
          cases hk : callOk P g with
          | false =>
            rw [hk] at e
            exact flatc_sound (by rw [ho]; simp [flatOp, hc]) hρ hR e
          | true =>
            rw [hk] at e
            obtain ⟨rfl, rfl⟩ := Prod.mk.inj (Option.some.inj e)
            have ha : RelL E (c.args.toList.map ρ) (c.args.toList.map ρ') := RelL.of fun x hx => hm _ hop x (by simp at hx ⊢; exact .inr hx)
            have e1 : c.args.map ρ' = ⟨c.args.toList.map ρ'⟩ := by apply Array.ext'; simp
            have fin : ∀ first' captured' : Array Value, ρ' f = .func (.func g) first' captured' → RelL E first.toList first'.toList → RelL E captured.toList captured'.toList →
                Does P X base E w (.enter g (first ++ ⟨c.args.toList.map ρ⟩ ++ captured)) H (execOp ρ' o) := by
              intro first' captured' hf' r1 r2
              refine ⟨E, .enter g (first' ++ ⟨c.args.toList.map ρ'⟩ ++ captured'), w, ?_, Ext.refl E, hR, Kp.refl _ _, rfl, ?_⟩
              · simp only [execOp, ho, resolve, hc, hf', e1, Deferred.ofValue, invoke, pure_bind]
                exact run_callFunc_of hk w
              · simpa using (r1.append (ha.append r2))
            generalize hy : ρ' f = y at hf1
            cases hf1 with
            | same hff =>
              obtain ⟨l1⟩ := first
              obtain ⟨l2⟩ := captured
              cases l1 with
              | cons a l => cases hff
              | nil => cases l2 with
                | cons a l => cases hff
                | nil => exact fin _ _ hy .nil .nil
            | func r1 r2 => exact fin _ _ hy r1 r2
        | _ => cases e
      | _ => rw [hf] at e; cases e
    | builtin b =>
      simp only [hc] at e
      have hop : o.op.operands = c.args := by rw [ho]; simp [Op.operands, Call.operands, hc]
      cases b with
      | len =>
        dsimp only at e
        split at e
        · rename_i x t ha ht
          have ha' : c.args = #[x] := by apply Array.ext'; simpa using ha
          have ht' : c.argTypes = #[t] := by apply Array.ext'; simpa using ht
          split at e
          · rename_i a n cp el hx hu
            obtain ⟨rfl, rfl⟩ := Prod.mk.inj (Option.some.inj e)
            refine Does.pure hR (.same rfl) ?_
            have h1 := hm _ hop x (by rw [ha']; simp)
            rw [hx] at h1
            generalize hy : ρ' x = y at h1
            have hu' := svp_run w hu
            simp only [execOp, ho, resolve, hc, ha', ht', invoke, pure_bind, Go.builtin]
            refine run_value ?_
            cases h1 with
            | same hff => cases hff
            | sl _ => simp [Builtin.len_, hy, hu', goInt]
          · exact flatc_sound (by rw [ho]; simp [flatOp, hc]) hρ hR e
        · cases e
      | min => exact flatc_sound (by rw [ho]; simp [flatOp, hc]) hρ hR e
      | max => exact flatc_sound (by rw [ho]; simp [flatOp, hc]) hρ hR e
      | _ => cases e
    | invoke r n => simp only [hc] at e; cases e
  | _ => simp only [ho] at e; cases e
end
end Go.Proofs.YtnggajehngemmaaGreatDoor
/-
  A run by reckoning, more operations: append, make, bytes as a text.
-/
namespace Go.Proofs.YtnggajehngemmaaGreatDoor
open Go Go.RowKit
def cellsOf (H : RW) (i : Nat) : Nat → Nat → Option (List Value)
  | _, 0 => some []
  | o, k + 1 => match H.cell ⟨i, o, none⟩, cellsOf H i (o + 1) k with
    | some v, some l => some (v :: l)
    | _, _ => none
def RW.kill (H : RW) (i : Nat) : RW := ⟨H.n, upd i .gone H.h⟩
section
variable {P : Program} {X : Kep} {base : Nat} {E : Ren} {H : RW} {w w' : World}
theorem cellsOf_rel [Ltr] (R : Rep X base E H w) {i b k : Nat} (e : E i = some (b, k)) : ∀ (n o : Nat) {vs : List Value}, cellsOf H i o n = some vs →
    ∃ vs', RelL E vs vs' ∧ vs.length = n ∧ ∀ j u, vs'[j]? = some u → w.cell? ⟨b, o + j, none⟩ = some u
  | 0, o, vs, h => by
    obtain rfl := Option.some.inj h
    exact ⟨[], .nil, rfl, fun j u hj => by simp at hj⟩
  | n + 1, o, vs, h => by
    unfold cellsOf at h
    cases hc : H.cell ⟨i, o, none⟩ with
    | none => rw [hc] at h; cases h
    | some v =>
      cases hl : cellsOf H i (o + 1) n with
      | none => rw [hc, hl] at h; cases h
      | some l =>
        rw [hc, hl] at h
        obtain rfl := Option.some.inj h
        obtain ⟨v', hv, rv⟩ := R.cell e hc
        obtain ⟨l', rl, hlen, hl'⟩ := cellsOf_rel R e n (o + 1) hl
        refine ⟨v' :: l', .cons rv rl, by simp [hlen], fun j u hj => ?_⟩
        cases j with
        | zero => obtain rfl : v' = u := by simpa using hj
                  exact hv
        | succ j =>
          have := hl' j u (by simpa using hj)
          rwa [show o + 1 + j = o + (j + 1) by omega] at this
theorem Rep.kill [Ltr] (R : Rep X base E H w) {i : Nat} {o : Ob} (hl : look i H.h = some o) : Rep X base E (H.kill i) w := by
  have part : ∀ {j : Nat} {oj : Ob}, look j (H.kill i).h = some oj → oj.live = true → look j H.h = some oj ∧ j ≠ i := by
    intro j oj hj lj
    by_cases hji : j = i
    · subst hji
      have : look j (upd j .gone H.h) = some .gone := look_upd hl
      unfold RW.kill at hj
      rw [this] at hj
      obtain rfl := Option.some.inj hj
      cases lj
    · exact ⟨by rwa [RW.kill, look_upd_ne hji] at hj, hji⟩
  refine ⟨R.dom, ?_, ?_, R.new, R.lt, R.bn, R.fx⟩
  · intro j oj hj
    by_cases hji : j = i
    · subst hji
      have : look j (upd j .gone H.h) = some .gone := look_upd hl
      unfold RW.kill at hj
      rw [this] at hj
      obtain rfl := Option.some.inj hj
      rcases R.ok' j o hl with hn | ⟨b, k, e, _⟩
      · exact .inl ⟨rfl, hn.2⟩
      exact .inr ⟨b, k, e, trivial⟩
    · rw [RW.kill, look_upd_ne hji] at hj
      exact R.ok' j oj hj
  · intro j j' oj oj' b k k' hj lj hj' lj' e e'
    exact R.inj j j' oj oj' b k k' (part hj lj).1 lj (part hj' lj').1 lj' e e'
theorem Ok.at [Ltr] {k : Nat} {o : Ob} {x y : Option Obj} (h : Ok E k o x) (e : o.live = true → y = x) : Ok E k o y := by
  cases o with
  | gone => trivial
  | _ => rw [e rfl]; exact h
theorem Ok.lt [Ltr] {k b : Nat} {o : Ob} (h : Ok E k o w.heap[b]?) (l : o.live = true) : b < w.heap.size := by
  cases o with
  | gone => cases l
  | ro vs => obtain ⟨c, t, fz, ex, _⟩ := h; exact (Array.getElem?_eq_some_iff.1 ex).1
  | row vs t => obtain ⟨xs, ex, _⟩ := h; exact (Array.getElem?_eq_some_iff.1 ex).1
  | own vs t sz => obtain ⟨xs, ys, ex, _⟩ := h; exact (Array.getElem?_eq_some_iff.1 ex).1
  | mp es c => obtain ⟨es', ex, _⟩ := h; exact (Array.getElem?_eq_some_iff.1 ex).1
  | lp st pd ts ps as bd => obtain ⟨fn, xs, db, ex, _⟩ := h; exact (Array.getElem?_eq_some_iff.1 ex).1
  | df => have ex : w.heap[b]? = some (.deferred (some [])) := h; exact (Array.getElem?_eq_some_iff.1 ex).1
  | it s p => have ex : w.heap[b]? = some (.stringIter s p) := h; exact (Array.getElem?_eq_some_iff.1 ex).1
  | opq i => obtain ⟨y, ex, _⟩ := h; exact (Array.getElem?_eq_some_iff.1 ex).1
  | tok i => obtain ⟨y, ex, _⟩ := h; exact (Array.getElem?_eq_some_iff.1 ex).1
/-- a new name for a row that has grown -/
theorem Rep.grown [Ltr] (R : Rep X base E H w) {row : Option Nat} (hg : w.grownBy w' row) (hrow : ∀ k, row = some k → ¬ X k ∧ ∀ i o b kk, look i H.h = some o → o.live = true → E i = some (b, kk) → b ≠ k)
    {g k : Nat} (hnew : w.heap.size ≤ g ∨ row = some g) {o : Ob} (hok : ∀ F, Ext E F → Ok F k o w'.heap[g]?) :
    Rep X base (E.new H.n g k) (H.push o) w' ∧ Ext E (E.new H.n g k) ∧ Kp X w w' := by
  have hx := Ren.ext (b := g) (k := k) (R.dom H.n (Nat.le_refl _))
  have hB : ¬ X g := by
    rcases hnew with h | h
    · exact fun hx => absurd (R.lt g hx) (by omega)
    · exact (hrow g h).1
  have keep : ∀ {i : Nat} {o' : Ob} {b kk : Nat}, look i H.h = some o' → o'.live = true → E i = some (b, kk) → w'.heap[b]? = w.heap[b]? ∧ b ≠ g := by
    intro i o' b kk hi hl e
    have h2 := R.oke hi e
    have hlt := h2.lt hl
    have hne : some b ≠ row := fun h => (hrow b h.symm).2 i o' b kk hi hl e rfl
    refine ⟨hg.block b hlt hne, ?_⟩
    rcases hnew with h | h
    · omega
    · exact fun h' => hne (h' ▸ h.symm)
  have part : ∀ {i : Nat} {o' : Ob}, look i (H.push o).h = some o' → (i = H.n ∧ o' = o) ∨ (i ≠ H.n ∧ look i H.h = some o') := by
    intro i o' hi
    unfold RW.push look at hi
    cases hb : Nat.beq i H.n with
    | true => rw [hb] at hi; exact .inl ⟨Nat.eq_of_beq_eq_true hb, (Option.some.inj hi).symm⟩
    | false => rw [hb] at hi; exact .inr ⟨fun h => (by rw [h, Nat.beq_refl] at hb; cases hb), hi⟩
  have ren : ∀ {i b kk : Nat}, (E.new H.n g k) i = some (b, kk) → (i = H.n ∧ b = g) ∨ (i ≠ H.n ∧ E i = some (b, kk)) := by
    intro i b kk e
    unfold Ren.new at e
    cases hb : Nat.beq i H.n with
    | true => rw [hb] at e; exact .inl ⟨Nat.eq_of_beq_eq_true hb, (Prod.mk.inj (Option.some.inj e)).1.symm⟩
    | false => rw [hb] at e; exact .inr ⟨fun h => (by rw [h, Nat.beq_refl] at hb; cases hb), e⟩
  refine ⟨⟨?_, ?_, ?_, ?_, ?_, ?_, ?_⟩, hx, ⟨hg.os, hg.tape, hg.output, hg.size, ?_⟩⟩
  · intro i hi
    have hi' : H.n + 1 ≤ i := hi
    unfold Ren.new
    have hb : Nat.beq i H.n = false := by
      cases hb : Nat.beq i H.n with
      | true => have := Nat.eq_of_beq_eq_true hb; omega
      | false => rfl
    rw [hb]
    exact R.dom i (by omega)
  · intro i o' hi
    rcases part hi with ⟨rfl, rfl⟩ | ⟨hne, hi'⟩
    · exact .inr ⟨g, k, Ren.at, hok _ hx⟩
    · rcases R.ok' i o' hi' with hn | ⟨b, kk, e, h'⟩
      · refine .inl ⟨hn.1, ?_, by have := hn.2.2; show i < H.n + 1; omega⟩
        unfold Ren.new
        rw [show Nat.beq i H.n = false by cases hb : Nat.beq i H.n with | true => (exact absurd (Nat.eq_of_beq_eq_true hb) hne) | false => rfl]
        exact hn.2.1
      exact .inr ⟨b, kk, hx _ _ e, Ok.mono hx (h'.at fun l => (keep hi' l e).1)⟩
  · intro i j oi oj b k1 k2 hi li hj lj e1 e2
    rcases part hi with ⟨p, _⟩ | ⟨p, hi'⟩ <;> rcases part hj with ⟨q, _⟩ | ⟨q, hj'⟩
    · rw [p, q]
    · rcases ren e1 with ⟨_, rfl⟩ | ⟨h, _⟩
      · rcases ren e2 with ⟨h, _⟩ | ⟨_, e2'⟩
        · exact absurd h q
        · exact absurd rfl (keep hj' lj e2').2
      · exact absurd p h
    · rcases ren e2 with ⟨_, rfl⟩ | ⟨h, _⟩
      · rcases ren e1 with ⟨h, _⟩ | ⟨_, e1'⟩
        · exact absurd h p
        · exact absurd rfl (keep hi' li e1').2
      · exact absurd q h
    · rcases ren e1 with ⟨h, _⟩ | ⟨_, e1'⟩
      · exact absurd h p
      · rcases ren e2 with ⟨h, _⟩ | ⟨_, e2'⟩
        · exact absurd h q
        · exact R.inj i j oi oj b k1 k2 hi' li hj' lj e1' e2'
  · intro i b kk hi e
    rcases ren e with ⟨_, rfl⟩ | ⟨_, e'⟩
    · exact hB
    · exact R.new i b kk hi e'
  · exact fun b hb => Nat.lt_of_lt_of_le (R.lt b hb) hg.size
  · have := R.bn; simp [RW.push]; omega
  · intro j hj
    exact (hg.block j (R.lt j hj) fun h => (hrow j h.symm).1 hj).trans (R.fx j hj)
  · intro j hj
    exact hg.block j (R.lt j hj) fun h => (hrow j h.symm).1 hj
end
end Go.Proofs.YtnggajehngemmaaGreatDoor
/-
  A run by reckoning: append, make, bytes as a text.
-/
namespace Go.Proofs.YtnggajehngemmaaGreatDoor
open Go Go.RowKit
def apd (P : Program) (base : Nat) (H : RW) (t : TypeId) (x y : Value) : Option (Value × RW) :=
  match P.underlying t with
  | some (.slice e) => match P.info? e with
    | some i => match i.zero with
      | some z => bif Nat.blt 0 i.size && Nat.beq z.cells.size i.size then
          match y with
          | .slice (some ⟨j, oy, none⟩) m _ => bif Nat.blt 0 m && Nat.ble m 1000000 && Nat.ble i.bytes 10000 then
            match cellsOf H j oy (m * i.size) with
            | some news => bif news.all single then
                match x with
                | .slice none 0 0 => some (.slice (some ⟨H.n, 0, none⟩) m big, H.push (.own news e i.size))
                | .slice (some ⟨i0, ox, none⟩) n c => bif Nat.ble n 1000000 then
                    bif Nat.blt c big then bif Nat.blt c (n + m) then match cellsOf H i0 ox (n * i.size) with
                        | some olds => some (.slice (some ⟨H.n, 0, none⟩) (n + m) big, H.push (.own (olds ++ news) e i.size))
                        | none => none
                      else none
                    else bif Nat.beq c big && Nat.beq ox 0 && Nat.ble base i0 then match look i0 H.h with
                        | some (.own vs e' sz) => bif Nat.beq e' e && Nat.beq sz i.size && Nat.beq vs.length (n * i.size) then
                            some (.slice (some ⟨H.n, 0, none⟩) (n + m) big, (H.kill i0).push (.own (vs ++ news) e i.size)) else none
                        | _ => none
                      else none
                  else none
                | _ => none
              else none
            | none => none
            else none
          | _ => none
        else none
      | none => none
    | none => none
  | _ => none
section
variable {P : Program} {X : Kep} {base : Nat} {E : Ren} {H : RW} {w w' : World}
theorem room_big (k : Nat) : room big k = k := by
  have h : Nat.blt big big = false := by
    cases hb : Nat.blt big big with
    | true => exact absurd (Nat.le_of_ble_eq_true hb) (by omega)
    | false => rfl
  unfold room
  rw [h, cond_false, Nat.sub_self, Nat.sub_zero]
theorem ones [Ltr] {vs vs' : List Value} : RelL E vs vs' → vs.all single = true → ∀ u ∈ vs', u.oneCell' = true
  | .nil, _ => by simp
  | .cons h t, hs => by
    simp only [List.all_cons, Bool.and_eq_true] at hs
    intro u hu
    rcases List.mem_cons.1 hu with rfl | hu
    · obtain ⟨n1, n2⟩ := single_not h hs.1
      cases u with
      | agg c => exact absurd rfl (n1 c)
      | tuple c => exact absurd rfl (n2 c)
      | _ => rfl
    · exact ones t hs.2 u hu
/-- a row that is owned, as a name -/
theorem own_ok [Ltr] {b0 n sz : Nat} {e : TypeId} {v' : Value} {xs vs : List Value} (ho : w'.ownsRow b0 e sz v' n xs) (hn : 0 < n) (r : RelL E vs xs) :
    ∃ g cap, v' = .slice (some ⟨g, 0, none⟩) n cap ∧ b0 ≤ g ∧ n ≤ cap ∧ ∀ F, Ext E F → Ok F cap (.own vs e sz) w'.heap[g]? := by
  obtain ⟨hl, h | ⟨g, cap, cur, hv, hb, hh, h1, h2, h3, h4⟩⟩ := ho
  · omega
  · refine ⟨g, cap, hv, hb, h1, fun F x => ⟨xs, cur.toList.drop (n * sz), ?_, r.mono x, ?_, h2⟩⟩
    · rw [hh, ← h4, List.take_append_drop]
    · have : cur.toList.length = cap * sz := by simpa using h3
      have hle : n * sz ≤ cap * sz := Nat.mul_le_mul_right sz h1
      rw [List.length_drop, this, hl]
      omega
theorem rel_own [Ltr] {g cap n i : Nat} (h : E i = some (g, cap)) : Rel E (.slice (some ⟨i, 0, none⟩) n big) (.slice (some ⟨g, 0, none⟩) n cap) := by
  have := Rel.sl (o := 0) (n := n) (c := big) h
  rwa [room_big] at this
theorem apd_sound [Ltr] {t ty : TypeId} {x y x' y' v : Value} {H1 : RW} (R : Rep X base E H w) (hx : Rel E x x') (hy : Rel E y y') (e : apd P base H t x y = some (v, H1)) :
    ∃ F v' w', (Builtin.append_ #[t, t] ty #[x', y']).run P w = .ok v' w' ∧ Ext E F ∧ Rep X base F H1 w' ∧ Kp X w w' ∧ Rel F v v' := by
  unfold apd at e
  split at e
  · rename_i el hu
    split at e
    · rename_i i hi
      split at e
      · rename_i z hz
        cases hc : (Nat.blt 0 i.size && Nat.beq z.cells.size i.size) with
        | false => rw [hc] at e; cases e
        | true =>
          rw [hc] at e
          simp only [Bool.and_eq_true] at hc
          have hs0 : 0 < i.size := Nat.le_of_ble_eq_true hc.1
          have hzs : z.cells.size = i.size := Nat.eq_of_beq_eq_true hc.2
          dsimp only [cond_true] at e
          split at e
          · rename_i j oy m cy
            cases hm : (Nat.blt 0 m && Nat.ble m 1000000 && Nat.ble i.bytes 10000) with
            | false => rw [hm] at e; cases e
            | true =>
              rw [hm] at e
              simp only [Bool.and_eq_true] at hm
              have hm0 : 0 < m := Nat.le_of_ble_eq_true hm.1.1
              have hm1 := Nat.le_of_ble_eq_true hm.1.2
              have hby := Nat.le_of_ble_eq_true hm.2
              dsimp only [cond_true] at e
              split at e
              · rename_i news hnews
                cases hsg : news.all single with
                | false => rw [hsg] at e; cases e
                | true =>
                  rw [hsg] at e
                  dsimp only [cond_true] at e
                  have hbytes : ∀ n, n ≤ 1000000 → (n + m) * i.bytes ≤ 140737488355328 := fun n hn =>
                    Nat.le_trans (Nat.mul_le_mul (Nat.add_le_add hn hm1) hby) (by decide)
                  cases hy with
                  | same hf => cases hf
                  | @sl _ _ bj kj _ _ hEj =>
                    obtain ⟨news', rn, ln, cn⟩ := cellsOf_rel R hEj (m * i.size) oy hnews
                    have hl' : news'.length = m * i.size := by rw [rn.length, ln]
                    have hcell : ∀ k u, news'[k]? = some u → w.cell? ((⟨bj, oy, none⟩ : Addr).add k) = some u := fun k u hk => by rw [Addr.add_lit]; exact cn k u hk
                    have h1 := ones rn hsg
                    split at e
                    · -- nil
                      obtain rfl := hx.flat_eq rfl
                      obtain ⟨rfl, rfl⟩ := Prod.mk.inj (Option.some.inj e)
                      obtain ⟨v', w', hr, ho, hg, hiff⟩ := run_append_own (P := P) w w.heap.size t ty el i z i.size i.bytes hu hi hz rfl rfl hzs hs0 (.slice none 0 0) 0 [] (World.ownsRow_nil w _ _ _) ⟨bj, oy, none⟩ m (room cy kj) news' hl' hcell h1
                        (by unfold maxLen; omega) (hbytes 0 (by omega)) (Nat.le_refl _)
                      have hn0 : 0 < 0 + m := by omega
                      obtain ⟨g, cap, rfl, hb, _, hok⟩ := own_ok (E := E) (vs := news) ho hn0 (by simpa using rn)
                      obtain ⟨p1, p2, p3⟩ := R.grown hg (fun k h => by cases h) (.inl hb) hok
                      refine ⟨_, _, w', hr, p2, p1, p3, ?_⟩
                      rw [Nat.zero_add]
                      exact rel_own Ren.at
                    · rename_i i0 ox n c
                      cases hn : Nat.ble n 1000000 with
                      | false => rw [hn] at e; cases e
                      | true =>
                        rw [hn] at e
                        have hn1 := Nat.le_of_ble_eq_true hn
                        dsimp only [cond_true] at e
                        cases hx with
                        | same hf => cases hf
                        | @sl _ _ b0 k0 _ _ hE0 =>
                          cases hcb : Nat.blt c big with
                          | true =>
                            rw [hcb] at e
                            dsimp only [cond_true] at e
                            cases hcn : Nat.blt c (n + m) with
                            | false => rw [hcn] at e; cases e
                            | true =>
                              rw [hcn] at e
                              dsimp only [cond_true] at e
                              have hcn' : c < n + m := Nat.le_of_ble_eq_true hcn
                              split at e
                              · rename_i olds holds
                                obtain ⟨rfl, rfl⟩ := Prod.mk.inj (Option.some.inj e)
                                obtain ⟨olds', ro, lo, co⟩ := cellsOf_rel R hE0 (n * i.size) ox holds
                                obtain ⟨v', w', hr, ho, hg⟩ := run_append_arg_grows (P := P) w t ty el i z i.size i.bytes hu hi hz rfl rfl hzs hs0 ⟨b0, ox, none⟩ n (room c k0) olds' (by rw [ro.length, lo])
                                  (fun k u hk => by rw [Addr.add_lit]; exact co k u hk) ⟨bj, oy, none⟩ m (room cy kj) news' hl' hcell (by rw [room_known hcb]; exact hcn') (by unfold maxLen; omega) (hbytes n hn1)
                                have hn0 : 0 < n + m := by omega
                                obtain ⟨g, cap, rfl, hb, _, hok⟩ := own_ok (E := E) (vs := olds ++ news) ho hn0 (ro.append rn)
                                obtain ⟨p1, p2, p3⟩ := R.grown hg (fun k h => by cases h) (.inl hb) hok
                                exact ⟨_, _, w', hr, p2, p1, p3, rel_own Ren.at⟩
                              · cases e
                          | false =>
                            rw [hcb] at e
                            dsimp only [cond_false] at e
                            cases hq : (Nat.beq c big && Nat.beq ox 0 && Nat.ble base i0) with
                            | false => rw [hq] at e; cases e
                            | true =>
                              rw [hq] at e
                              simp only [Bool.and_eq_true] at hq
                              obtain rfl := Nat.eq_of_beq_eq_true hq.1.1
                              obtain rfl := Nat.eq_of_beq_eq_true hq.1.2
                              have hbi := Nat.le_of_ble_eq_true hq.2
                              dsimp only [cond_true] at e
                              split at e
                              · rename_i vs e' sz hlk
                                cases hv : (Nat.beq e' el && Nat.beq sz i.size && Nat.beq vs.length (n * i.size)) with
                                | false => rw [hv] at e; cases e
                                | true =>
                                  rw [hv] at e
                                  simp only [Bool.and_eq_true] at hv
                                  obtain rfl := Nat.eq_of_beq_eq_true hv.1.1
                                  obtain rfl := Nat.eq_of_beq_eq_true hv.1.2
                                  have hvl := Nat.eq_of_beq_eq_true hv.2
                                  obtain ⟨rfl, rfl⟩ := Prod.mk.inj (Option.some.inj e)
                                  obtain ⟨b2, k2, e2, xs, ys, hh, rx, hxy, hmx⟩ := R.ok i0 _ hlk
                                  rw [hE0] at e2
                                  obtain ⟨rfl, rfl⟩ := Prod.mk.inj (Option.some.inj e2)
                                  rw [room_big]
                                  have hxl : xs.length = n * i.size := by rw [rx.length, hvl]
                                  have hnk : n ≤ k0 := by
                                    have : n * i.size ≤ k0 * i.size := by omega
                                    exact Nat.le_of_mul_le_mul_right this hs0
                                  have Rk := R.kill hlk
                                  have hn0 : 0 < n + m := by omega
                                  have hother : ∀ i' o' b' kk, look i' (H.kill i0).h = some o' → o'.live = true → E i' = some (b', kk) → b' ≠ b0 := by
                                    intro i' o' b' kk hi' li e3 hb
                                    subst hb
                                    by_cases hii : i' = i0
                                    · subst hii
                                      have : look i' (upd i' .gone H.h) = some .gone := look_upd hlk
                                      rw [RW.kill, this] at hi'
                                      obtain rfl := Option.some.inj hi'
                                      cases li
                                    · rw [RW.kill, look_upd_ne hii] at hi'
                                      exact hii (R.inj i' i0 o' _ b' kk k0 hi' li hlk rfl e3 hE0)
                                  have own : w.ownsRow 0 e' i.size (.slice (some ⟨b0, 0, none⟩) n k0) n xs :=
                                    ⟨hxl, .inr ⟨b0, k0, ⟨xs ++ ys⟩, rfl, Nat.zero_le _, hh, hnk, hmx, by simpa using hxy, by simp [← hxl]⟩⟩
                                  by_cases hroom : n + m ≤ k0
                                  · obtain ⟨v', w', hr, ho, hg, -⟩ := run_append_own (P := P) w 0 t ty e' i z i.size i.bytes hu hi hz rfl rfl hzs hs0 _ n xs own ⟨bj, oy, none⟩ m (room cy kj) news' hl' hcell h1
                                      (by unfold maxLen; omega) (hbytes n hn1) (Nat.zero_le _)
                                    have hmul : (n + m) * i.size ≤ k0 * i.size := Nat.mul_le_mul_right _ hroom
                                    have hr2 := run_append_room_cells (P := P) w t ty e' i hu hi b0 0 n k0 ⟨bj, oy, none⟩ m (room cy kj) news' hl' hcell h1 hroom
                                      (fun k hk => by
                                        rw [heap_get_of hh]
                                        simp only [List.getElem?_toArray]
                                        have : 0 + n * i.size + k < (xs ++ ys).length := by
                                          rw [List.length_append, hxy]
                                          rw [hl'] at hk
                                          rw [Nat.add_mul] at hmul
                                          omega
                                        rw [List.getElem?_eq_getElem this]
                                        rfl)
                                      (fun k hk => by simp [World.frozen?, hh])
                                    rw [hr] at hr2
                                    have hv2 := (Result.ok.inj hr2).1
                                    obtain ⟨g, cap, hv3, hb, _, hok⟩ := own_ok (E := E) (vs := vs ++ news) ho hn0 (rx.append rn)
                                    have hgb : g = b0 := by
                                      rw [hv3] at hv2
                                      exact (Addr.mk.inj (Option.some.inj (Value.slice.inj hv2).1)).1
                                    subst hgb
                                    obtain ⟨p1, p2, p3⟩ := Rk.grown hg (fun k h => by
                                      obtain rfl : g = k := Option.some.inj h
                                      exact ⟨R.new i0 g k0 hbi hE0, hother⟩) (.inr rfl) hok
                                    exact ⟨_, _, w', hr, p2, p1, p3, hv3 ▸ rel_own Ren.at⟩
                                  · obtain ⟨v', w', hr, ho, hg⟩ := run_append_arg_grows (P := P) w t ty e' i z i.size i.bytes hu hi hz rfl rfl hzs hs0 ⟨b0, 0, none⟩ n k0 xs hxl
                                      (fun k u hk => by
                                        rw [Addr.add_lit, heap_get_of hh]
                                        have hk' : k < xs.length := by
                                          rcases Nat.lt_or_ge k xs.length with h | h
                                          · exact h
                                          · rw [List.getElem?_eq_none h] at hk; cases hk
                                        simp [List.getElem?_append_left hk', hk]) ⟨bj, oy, none⟩ m (room cy kj) news' hl' hcell (by omega) (by unfold maxLen; omega) (hbytes n hn1)
                                    obtain ⟨g, cap, rfl, hb, _, hok⟩ := own_ok (E := E) (vs := vs ++ news) ho hn0 (rx.append rn)
                                    obtain ⟨p1, p2, p3⟩ := Rk.grown hg (fun k h => by cases h) (.inl hb) hok
                                    exact ⟨_, _, w', hr, p2, p1, p3, rel_own Ren.at⟩
                              · cases e
                    · cases e
              · cases e
          · cases e
      · cases e
    · cases e
  · cases e
end
end Go.Proofs.YtnggajehngemmaaGreatDoor
