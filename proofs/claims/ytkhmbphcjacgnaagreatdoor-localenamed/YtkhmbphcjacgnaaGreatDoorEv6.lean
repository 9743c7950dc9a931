/-
  A run by reckoning, part 6: every operation, over names and over memory.
-/
import Derived.Test.YtkhmbphcjacgnaaGreatDoorEv5
namespace Go.Proofs.YtkhmbphcjacgnaaGreatDoor
open Go Go.RowKit
def evOp (P : Program) (base : Nat) (ρ : Operand → Value) (o : Oper) (H : RW) : Option (Next × RW) :=
  match o.op with
  | .move x | .assign x => some (.value (ρ x), H)
  | .pick c a b => match ρ c with
    | .bool t => some (.value (bif t then ρ a else ρ b), H)
    | _ => none
  | .alloc t => bif zfl P t then sv P base (execOp ρ o) H else none
  | .box _ x => bif isTop (ρ x) then none else sv P base (execOp ρ o) H
  | .store _ _ x => bif isTop (ρ x) then none else sv P base (execOp ρ o) H
  | .load .. | .field .. | .extract .. | .indexAddr .. => sv P base (execOp ρ o) H
  | .fieldAddr t _ f => bif fokAt P t f then sv P base (execOp ρ o) H else none
  | .build t parts => bif zfl P t && noTops (parts.toList.map fun x => (x.1, ρ x.2)) then match P.built t (parts.toList.map fun x => (x.1, ρ x.2)) with
      | some c => some (.value (.agg c), H)
      | none => none
    else none
  | .buildSlice t len parts => bif noTops (parts.toList.map fun x => (x.1, ρ x.2)) then match bsl P t len (parts.toList.map fun x => (x.1, ρ x.2)) with
    | some (e, c) => some (.value (.slice (some ⟨H.n, 0, none⟩) len len), H.push (.row c.toList e))
    | none => none
    else none
  | .nilCheck x => match ρ x with
    | .pointer (some a) => some (.value (.pointer (some a)), H)
    | .slice a n c => some (.value (.slice a n c), H)
    | .func (.func g) x y => some (.value (.func (.func g) x y), H)
    | _ => none
  | .makeFunc (.func g) first captured => some (.value (.func (.func g) ⟨first.toList.map ρ⟩ ⟨captured.toList.map ρ⟩), H)
  | .makeInterface t x => match svp P (Go.underlying t) with
    | some (.interface _) => none
    | some _ => some (.value (.iface t (ρ x)), H)
    | none => none
  | .slice t x lo hi mx => bif flat (ρ x) then flatc P ρ o H else
      bif (match ρ x with | .slice _ _ c => Nat.blt c big | _ => true) && (lo.toList ++ hi.toList ++ mx.toList).all (fun y => flat (ρ y)) then
        match sv P base (Instr.sliceAt t (ρ x) (lo.map ρ) (hi.map ρ) (mx.map ρ)) H with
        | some (v, H1) => bif okSl v then some (.value v, H1) else none
        | none => none
      else none
  | .binOp op t x y _ => bif fl2 (ρ x) && fl2 (ρ y) then flatc P ρ o H else match nilcmp P op t (ρ x) (ρ y) with
    | some b => some (.value (.bool b), H)
    | none => none
  | .unOp .. | .convert .. => flatc P ρ o H
  | .index _ x _ => bif flat (ρ x) then flatc P ρ o H else sv P base (execOp ρ o) H
  | .call c => match c.callee with
    | .value f => match ρ f with
      | .func (.func g) first captured => bif callOk P g then some (.enter g (first ++ ⟨c.args.toList.map ρ⟩ ++ captured), H) else flatc P ρ o H
      | _ => none
    | .builtin .len => match c.args.toList, c.argTypes.toList with
      | [x], [t] => match ρ x, svp P (Go.underlying t) with
        | .slice (some _) n _, some (.slice _) => some (.value (.int .i64 n), H)
        | _, _ => flatc P ρ o H
      | _, _ => none
    | .builtin .min | .builtin .max => flatc P ρ o H
    | _ => none
  | _ => none
section
variable {P : Program} {X : Kep} {base : Nat} {E : Ren}
theorem eq_slice [Ltr] {t el : TypeId} {a : Addr} {n c n' c' : Nat} {w : World} (hu : svp P (Go.underlying t) = some (.slice el)) : (Op.equal t (.slice (some a) n c) (.slice none n' c')).run P w = .ok false w := by
  show (Op.equalIn (9999 + 1) t _ _).run P w = _
  rw [Op.equalIn, Sem.run_bind, svp_run w hu]
  rfl
theorem eq_ptr [Ltr] {t el : TypeId} {a : Addr} {w : World} (hu : svp P (Go.underlying t) = some (.pointer el)) : (Op.equal t (.pointer (some a)) (.pointer none)).run P w = .ok false w := by
  show (Op.equalIn (9999 + 1) t _ _).run P w = _
  rw [Op.equalIn, Sem.run_bind, svp_run w hu]
  rfl
theorem eq_map [Ltr] {t k el : TypeId} {a : Nat} {w : World} (hu : svp P (Go.underlying t) = some (.map k el)) : (Op.equal t (.map (some a)) (.map none)).run P w = .ok false w := by
  show (Op.equalIn (9999 + 1) t _ _).run P w = _
  rw [Op.equalIn, Sem.run_bind, svp_run w hu]
  rfl
theorem eq_func [Ltr] {t : TypeId} {p r : Array TypeId} {v : Bool} {f : Fn} {x y : Array Value} {w : World} (hu : svp P (Go.underlying t) = some (.func p r v)) : (Op.equal t (.func f x y) .nilFunc).run P w = .ok false w := by
  show (Op.equalIn (9999 + 1) t _ _).run P w = _
  rw [Op.equalIn, Sem.run_bind, svp_run w hu]
  rfl
theorem eql_run {t : TypeId} {x y : Value} {xo yo : Operand} {w : World} (hg : eqGuard .eql t xo yo x y = Pure.pure ()) (hb : binOp .eql t x y = (Op.equal t x y >>= fun b => Pure.pure (Value.bool b))) (h : (Op.equal t x y).run P w = .ok false w) :
    (do eqGuard .eql t xo yo x y; binOp .eql t x y : Sem Value).run P w = .ok (.bool false) w := by
  rw [hg, hb, Sem.run_bind, Sem.run_pure, Result.andThen_ok, Sem.run_bind, h]
  rfl
theorem neq_run {t : TypeId} {x y : Value} {xo yo : Operand} {w : World} (hg : eqGuard .neq t xo yo x y = Pure.pure ()) (hb : binOp .neq t x y = (Op.equal t x y >>= fun b => Pure.pure (Value.bool (!b)))) (h : (Op.equal t x y).run P w = .ok false w) :
    (do eqGuard .neq t xo yo x y; binOp .neq t x y : Sem Value).run P w = .ok (.bool true) w := by
  rw [hg, hb, Sem.run_bind, Sem.run_pure, Result.andThen_ok, Sem.run_bind, h]
  rfl
theorem nilcmp_run [Ltr] {op : BinOp} {t : TypeId} {x y x' y' : Value} {b : Bool} {xo yo : Operand} (h : nilcmp P op t x y = some b) (hx : Rel E x x') (hy : Rel E y y') (w : World) :
    (do eqGuard op t xo yo x' y'; binOp op t x' y' : Sem Value).run P w = .ok (.bool b) w := by
  unfold nilcmp at h
  split at h
  case h_1 hu => obtain rfl := Option.some.inj h; obtain rfl := hy.flat_eq rfl; cases hx with
    | sl _ => exact eql_run rfl rfl (eq_slice hu)
    | same hf => cases hf
  case h_2 hu => obtain rfl := Option.some.inj h; obtain rfl := hy.flat_eq rfl; cases hx with
    | sl _ => exact neq_run rfl rfl (eq_slice hu)
    | same hf => cases hf
  case h_3 hu => obtain rfl := Option.some.inj h; obtain rfl := hy.flat_eq rfl; cases hx with
    | ptr _ => exact eql_run rfl rfl (eq_ptr hu)
    | same hf => cases hf
  case h_4 hu => obtain rfl := Option.some.inj h; obtain rfl := hy.flat_eq rfl; cases hx with
    | ptr _ => exact neq_run rfl rfl (eq_ptr hu)
    | same hf => cases hf
  case h_5 hu => obtain rfl := Option.some.inj h; obtain rfl := hy.flat_eq rfl; cases hx with
    | func _ _ => exact eql_run rfl rfl (eq_func hu)
    | yld _ => exact eql_run rfl rfl (eq_func hu)
    | same hf => exact eql_run rfl rfl (eq_func hu)
  case h_6 hu => obtain rfl := Option.some.inj h; obtain rfl := hy.flat_eq rfl; cases hx with
    | func _ _ => exact neq_run rfl rfl (eq_func hu)
    | yld _ => exact neq_run rfl rfl (eq_func hu)
    | same hf => exact neq_run rfl rfl (eq_func hu)
  case h_7 hu => obtain rfl := Option.some.inj h; obtain rfl := hy.flat_eq rfl; cases hx with
    | map _ => exact eql_run rfl rfl (eq_map hu)
    | same hf => cases hf
  case h_8 hu => obtain rfl := Option.some.inj h; obtain rfl := hy.flat_eq rfl; cases hx with
    | map _ => exact neq_run rfl rfl (eq_map hu)
    | same hf => cases hf
  case h_9 => cases h
theorem mem_ops [Ltr] {o : Oper} {ρ ρ' : Operand → Value} (hρ : ∀ x ∈ o.op.operands, Rel E (ρ x) (ρ' x)) {l : Array Operand} (e : o.op.operands = l) {x : Operand} (h : x ∈ l) : Rel E (ρ x) (ρ' x) := hρ x (e ▸ h)
theorem run_value {s : Sem Value} {v : Value} {w w' : World} (h : s.run P w = .ok v w') : (do Pure.pure (Next.value (← s)) : Sem Next).run P w = .ok (.value v) w' := by
  rw [Sem.run_bind, h]
  rfl
theorem cond_someA {α : Type} {b : Bool} {x : Option α} {y : α} (h : (bif b then x else none) = some y) : b = true ∧ x = some y := by
  cases b with
  | true => exact ⟨rfl, h⟩
  | false => cases h
theorem evOp_sound [Ltr] {ρ ρ' : Operand → Value} {o : Oper} {H H1 : RW} {nx : Next} {w : World} (hρ : ∀ x ∈ o.op.operands, Rel E (ρ x) (ρ' x)) (hR : Rep X base E H w)
    (e : evOp P base ρ o H = some (nx, H1)) : Does P X base E w nx H1 (execOp ρ' o) := by
  have hm := fun l e x h => mem_ops (E := E) (o := o) hρ (l := l) e (x := x) h
  unfold evOp at e
  cases ho : o.op with
  | move x =>
    simp only [ho] at e
    obtain ⟨rfl, rfl⟩ := Prod.mk.inj (Option.some.inj e)
    exact Does.pure hR (hm #[x] (by rw [ho]; rfl) x (by simp)) (by simp [execOp, ho])
  | assign x =>
    simp only [ho] at e
    obtain ⟨rfl, rfl⟩ := Prod.mk.inj (Option.some.inj e)
    exact Does.pure hR (hm #[x] (by rw [ho]; rfl) x (by simp)) (by simp [execOp, ho])
  | pick c a b =>
    simp only [ho] at e
    have h1 := hm #[c, a, b] (by rw [ho]; rfl) c (by simp)
    have h2 := hm #[c, a, b] (by rw [ho]; rfl) a (by simp)
    have h3 := hm #[c, a, b] (by rw [ho]; rfl) b (by simp)
    cases hc : ρ c with
    | bool t =>
      rw [hc] at e h1
      obtain ⟨rfl, rfl⟩ := Prod.mk.inj (Option.some.inj e)
      have h1' := h1.bool
      cases t with
      | true => exact Does.pure hR h2 (by simp [execOp, ho, h1', asBool])
      | false => exact Does.pure hR h3 (by simp [execOp, ho, h1', asBool])
    | _ => rw [hc] at e; cases e
  | alloc t =>
    simp only [ho] at e
    cases hz : zfl P t with
    | false => rw [hz] at e; cases e
    | true =>
      rw [hz] at e
      refine Does.of ?_ hR e
      simp only [execOp, ho]
      exact Snd.value (Snd.alloc hz)
  | box t x =>
    simp only [ho] at e
    cases ht : isTop (ρ x) with
    | true => rw [ht] at e; cases e
    | false =>
      rw [ht] at e
      refine Does.of ?_ hR e
      simp only [execOp, ho]
      exact Snd.value (Snd.box (hm #[x] (by rw [ho]; rfl) x (by simp)) ht)
  | load t x =>
    simp only [ho] at e
    refine Does.of ?_ hR e
    simp only [execOp, ho]
    exact Snd.value (Snd.loadAt (hm #[x] (by rw [ho]; rfl) x (by simp)))
  | store t x y =>
    simp only [ho] at e
    cases ht : isTop (ρ y) with
    | true => rw [ht] at e; cases e
    | false =>
      rw [ht] at e
      refine Does.of ?_ hR e
      simp only [execOp, ho]
      exact Snd.unit (Snd.storeAt (hm #[x, y] (by rw [ho]; rfl) x (by simp)) (hm #[x, y] (by rw [ho]; rfl) y (by simp)) ht)
  | field t x f =>
    simp only [ho] at e
    refine Does.of ?_ hR e
    simp only [execOp, ho]
    exact Snd.value (Snd.field (hm #[x] (by rw [ho]; rfl) x (by simp)) f)
  | extract x i =>
    simp only [ho] at e
    refine Does.of ?_ hR e
    simp only [execOp, ho]
    exact Snd.value (Snd.extract (hm #[x] (by rw [ho]; rfl) x (by simp)) i)
  | indexAddr t x y =>
    simp only [ho] at e
    refine Does.of ?_ hR e
    simp only [execOp, ho]
    exact Snd.value (Snd.indexAt (hm #[x, y] (by rw [ho]; rfl) x (by simp)) (hm #[x, y] (by rw [ho]; rfl) y (by simp)))
  | fieldAddr t x f =>
    simp only [ho] at e
    cases hz : fokAt P t f with
    | false => rw [hz] at e; cases e
    | true =>
      rw [hz] at e
      refine Does.of ?_ hR e
      simp only [execOp, ho]
      exact Snd.value (Snd.fieldAt hz (hm #[x] (by rw [ho]; rfl) x (by simp)))
  | build t parts =>
    simp only [ho] at e
    cases hzz : (zfl P t && noTops (parts.toList.map fun x => (x.1, ρ x.2))) with
    | false => rw [hzz] at e; cases e
    | true =>
      rw [hzz] at e
      dsimp only [cond_true] at e
      simp only [Bool.and_eq_true] at hzz
      obtain ⟨hz, hnt⟩ := hzz
      cases hb : P.built t (parts.toList.map fun x => (x.1, ρ x.2)) with
      | none => rw [hb] at e; cases e
      | some c =>
        rw [hb] at e
        obtain ⟨rfl, rfl⟩ := Prod.mk.inj (Option.some.inj e)
        obtain ⟨r', hr', hrel⟩ := built_rel hz (RelP.of (ρ := ρ) (ρ' := ρ') (l := parts.toList) hnt fun x hx => hm (parts.toList.map (·.2)).toArray (by rw [ho]; rfl) x.2 (by simp; exact ⟨x.1, by simpa using hx⟩)) hb
        refine Does.pure hR (.agg hrel) ?_
        simp only [execOp, ho]
        refine run_value (run_build w t _ r' ?_)
        rw [← hr']
        congr 1
        simp
  | buildSlice t len parts =>
    simp only [ho] at e
    obtain ⟨hnt, e⟩ := cond_someA e
    cases hb : bsl P t len (parts.toList.map fun x => (x.1, ρ x.2)) with
    | none => rw [hb] at e; cases e
    | some p =>
      obtain ⟨el, c⟩ := p
      rw [hb] at e
      obtain ⟨rfl, rfl⟩ := Prod.mk.inj (Option.some.inj e)
      have hp := RelP.of (E := E) (ρ := ρ) (ρ' := ρ') (l := parts.toList) hnt fun x hx => hm (parts.toList.map (·.2)).toArray (by rw [ho]; rfl) x.2 (by simp; exact ⟨x.1, by simpa using hx⟩)
      obtain ⟨r', hr', hrel, hlen⟩ := bsl_rel (parts' := parts.map fun x => (x.1, ρ' x.2)) (by simpa using hp) hb w
      obtain ⟨p1, p2, p3⟩ := hR.push (o := .row c.toList el) (x := .cells r' el) (k := 0) (fun F x => ⟨r'.toList, rfl, RelL.mono x hrel⟩)
      refine ⟨_, .value (.slice (some ⟨w.heap.size, 0, none⟩) len len), _, ?_, p2, p1, p3, relSl ⟨_, _, _, _, rfl, rfl, Ren.at⟩ hlen⟩
      simp only [execOp, ho]
      exact run_value hr'
  | nilCheck x =>
    simp only [ho] at e
    have h1 := hm #[x] (by rw [ho]; rfl) x (by simp)
    cases hx : ρ x with
    | pointer a =>
      rw [hx] at e h1
      cases a with
      | none => cases e
      | some a =>
        obtain ⟨rfl, rfl⟩ := Prod.mk.inj (Option.some.inj e)
        refine Does.pure hR h1 ?_
        generalize hy : ρ' x = y at h1
        cases h1 with
        | same hf => cases hf
        | ptr _ => simp [execOp, ho, hy]
    | slice a n c =>
      rw [hx] at e h1
      obtain ⟨rfl, rfl⟩ := Prod.mk.inj (Option.some.inj e)
      refine Does.pure hR h1 ?_
      generalize hy : ρ' x = y at h1
      cases h1 with
      | same hf => simp [execOp, ho, hy]
      | sl _ => simp [execOp, ho, hy]
    | func f a b =>
      rw [hx] at e h1
      cases f with
      | func g =>
        obtain ⟨rfl, rfl⟩ := Prod.mk.inj (Option.some.inj e)
        refine Does.pure hR h1 ?_
        generalize hy : ρ' x = y at h1
        cases h1 with
        | same hf => simp [execOp, ho, hy]
        | func _ _ => simp [execOp, ho, hy]
      | _ => cases e
    | _ => rw [hx] at e; cases e
  | makeFunc f first captured =>
    simp only [ho] at e
    cases f with
    | func g =>
      obtain ⟨rfl, rfl⟩ := Prod.mk.inj (Option.some.inj e)
      have h1 : RelL E (first.toList.map ρ) (first.toList.map ρ') := RelL.of fun x hx => hm (first ++ captured) (by rw [ho]; rfl) x (by simp at hx ⊢; exact .inl hx)
      have h2 : RelL E (captured.toList.map ρ) (captured.toList.map ρ') := RelL.of fun x hx => hm (first ++ captured) (by rw [ho]; rfl) x (by simp at hx ⊢; exact .inr hx)
      refine Does.pure hR (.func h1 h2) ?_
      have e1 : first.map ρ' = ⟨first.toList.map ρ'⟩ := by apply Array.ext'; simp
      have e2 : captured.map ρ' = ⟨captured.toList.map ρ'⟩ := by apply Array.ext'; simp
      simp only [execOp, ho, Instr.makeFunc, e1, e2]
      rfl
    | _ => cases e
  | makeInterface t x =>
    simp only [ho] at e
    have h1 := hm #[x] (by rw [ho]; rfl) x (by simp)
    cases hu : svp P (Go.underlying t) with
    | none => rw [hu] at e; cases e
    | some d =>
      have hu' := svp_run w hu
      rw [hu] at e
      cases d with
      | interface m => cases e
      | _ =>
        obtain ⟨rfl, rfl⟩ := Prod.mk.inj (Option.some.inj e)
        refine Does.pure hR (.iface h1) ?_
        simp only [execOp, ho]
        refine run_value ?_
        simp [Instr.makeInterface, hu']
  | slice t x lo hi mx =>
    simp only [ho] at e
    cases hf : flat (ρ x) with
    | true => rw [hf] at e; exact flatc_sound (by rw [ho]; rfl) hρ hR e
    | false =>
      rw [hf] at e
      dsimp only [cond_false] at e
      cases hc : ((match ρ x with | .slice _ _ c => Nat.blt c big | _ => true) && (lo.toList ++ hi.toList ++ mx.toList).all (fun y => flat (ρ y))) with
      | false => rw [hc] at e; cases e
      | true =>
        rw [hc] at e
        dsimp only [cond_true] at e
        simp only [Bool.and_eq_true] at hc
        cases hs : sv P base (Instr.sliceAt t (ρ x) (lo.map ρ) (hi.map ρ) (mx.map ρ)) H with
        | none => rw [hs] at e; cases e
        | some p =>
          obtain ⟨v, H2⟩ := p
          rw [hs] at e
          dsimp only at e
          cases hk : okSl v with
          | false => rw [hk] at e; cases e
          | true =>
            rw [hk] at e
            obtain ⟨rfl, rfl⟩ := Prod.mk.inj (Option.some.inj e)
            have hl : ∀ y ∈ lo.toList ++ hi.toList ++ mx.toList, ρ' y = ρ y := fun y hy => by
              refine (hm (#[x] ++ lo.toArray ++ hi.toArray ++ mx.toArray) (by rw [ho]; rfl) y ?_).flat_eq (List.all_eq_true.1 hc.2 y hy)
              simp at hy ⊢
              rcases hy with h | h | h
              · exact .inr (.inl h)
              · exact .inr (.inr (.inl h))
              · exact .inr (.inr (.inr h))
            have e1 : lo.map ρ' = lo.map ρ := by cases lo with
              | none => rfl
              | some y => simp [hl y (by simp)]
            have e2 : hi.map ρ' = hi.map ρ := by cases hi with
              | none => rfl
              | some y => simp [hl y (by simp)]
            have e3 : mx.map ρ' = mx.map ρ := by cases mx with
              | none => rfl
              | some y => simp [hl y (by simp)]
            have hx := hm (#[x] ++ lo.toArray ++ hi.toArray ++ mx.toArray) (by rw [ho]; rfl) x (by simp)
            obtain ⟨F, v', w', hr, x1, R1, b1, rv⟩ := Snd.sliceAt hc.1 hf hx (lo.map ρ) (hi.map ρ) (mx.map ρ) H H2 v w hR hs
            refine ⟨F, .value v', w', ?_, x1, R1, b1, rv hk⟩
            simp only [execOp, ho, e1, e2, e3]
            exact run_value hr
  | binOp op t x y t' =>
    simp only [ho] at e
    cases hf : (fl2 (ρ x) && fl2 (ρ y)) with
    | true => rw [hf] at e; exact flatc_sound (by rw [ho]; rfl) hρ hR e
    | false =>
      rw [hf] at e
      dsimp only [cond_false] at e
      cases hn : nilcmp P op t (ρ x) (ρ y) with
      | none => rw [hn] at e; cases e
      | some b =>
        rw [hn] at e
        obtain ⟨rfl, rfl⟩ := Prod.mk.inj (Option.some.inj e)
        refine Does.pure hR (.same rfl) ?_
        simp only [execOp, ho]
        exact run_value (nilcmp_run hn (hm #[x, y] (by rw [ho]; rfl) x (by simp)) (hm #[x, y] (by rw [ho]; rfl) y (by simp)) w)
  | unOp op t x => simp only [ho] at e; exact flatc_sound (by rw [ho]; rfl) hρ hR e
  | convert s d x => simp only [ho] at e; exact flatc_sound (by rw [ho]; rfl) hρ hR e
  | index t x y =>
    simp only [ho] at e
    cases hf : flat (ρ x) with
    | true => rw [hf] at e; exact flatc_sound (by rw [ho]; rfl) hρ hR e
    | false =>
      rw [hf] at e
      refine Does.of ?_ hR e
      simp only [execOp, ho]
      exact Snd.value (Snd.index hf (hm #[x, y] (by rw [ho]; rfl) x (by simp)) (hm #[x, y] (by rw [ho]; rfl) y (by simp)))
  | call c =>
    simp only [ho] at e
    cases hc : c.callee with
    | value f =>
      simp only [hc] at e
      have hop : o.op.operands = #[f] ++ c.args := by rw [ho]; simp [Op.operands, Call.operands, hc]
      have hf1 := hm _ hop f (by simp)
      cases hf : ρ f with
      | func fn first captured =>
        rw [hf] at e hf1
        cases fn with
        | func g =>
          dsimp only at e
          cases hk : callOk P g with
          | false =>
            rw [hk] at e
            exact flatc_sound (by rw [ho]; simp [flatOp, hc]) hρ hR e
          | true =>
            rw [hk] at e
            obtain ⟨rfl, rfl⟩ := Prod.mk.inj (Option.some.inj e)
            have ha : RelL E (c.args.toList.map ρ) (c.args.toList.map ρ') := RelL.of fun x hx => hm _ hop x (by simp at hx ⊢; exact .inr hx)
            have e1 : c.args.map ρ' = ⟨c.args.toList.map ρ'⟩ := by apply Array.ext'; simp
            have fin : ∀ first' captured' : Array Value, ρ' f = .func (.func g) first' captured' → RelL E first.toList first'.toList → RelL E captured.toList captured'.toList →
                Does P X base E w (.enter g (first ++ ⟨c.args.toList.map ρ⟩ ++ captured)) H (execOp ρ' o) := by
              intro first' captured' hf' r1 r2
              refine ⟨E, .enter g (first' ++ ⟨c.args.toList.map ρ'⟩ ++ captured'), w, ?_, Ext.refl E, hR, Kp.refl _ _, rfl, ?_⟩
              · simp only [execOp, ho, resolve, hc, hf', e1, Deferred.ofValue, invoke, pure_bind]
                exact run_callFunc_of hk w
              · simpa using (r1.append (ha.append r2))
            generalize hy : ρ' f = y at hf1
            cases hf1 with
            | same hff =>
              obtain ⟨l1⟩ := first
              obtain ⟨l2⟩ := captured
              cases l1 with
              | cons a l => cases hff
              | nil => cases l2 with
                | cons a l => cases hff
                | nil => exact fin _ _ hy .nil .nil
            | func r1 r2 => exact fin _ _ hy r1 r2
        | _ => cases e
      | _ => rw [hf] at e; cases e
    | builtin b =>
      simp only [hc] at e
      have hop : o.op.operands = c.args := by rw [ho]; simp [Op.operands, Call.operands, hc]
      cases b with
      | len =>
        dsimp only at e
        split at e
        · rename_i x t ha ht
          have ha' : c.args = #[x] := by apply Array.ext'; simpa using ha
          have ht' : c.argTypes = #[t] := by apply Array.ext'; simpa using ht
          split at e
          · rename_i a n cp el hx hu
            obtain ⟨rfl, rfl⟩ := Prod.mk.inj (Option.some.inj e)
            refine Does.pure hR (.same rfl) ?_
            have h1 := hm _ hop x (by rw [ha']; simp)
            rw [hx] at h1
            generalize hy : ρ' x = y at h1
            have hu' := svp_run w hu
            simp only [execOp, ho, resolve, hc, ha', ht', invoke, pure_bind, Go.builtin]
            refine run_value ?_
            cases h1 with
            | same hff => cases hff
            | sl _ => simp [Builtin.len_, hy, hu', goInt]
          · exact flatc_sound (by rw [ho]; simp [flatOp, hc]) hρ hR e
        · cases e
      | min => exact flatc_sound (by rw [ho]; simp [flatOp, hc]) hρ hR e
      | max => exact flatc_sound (by rw [ho]; simp [flatOp, hc]) hρ hR e
      | _ => cases e
    | invoke r n => simp only [hc] at e; cases e
  | _ => simp only [ho] at e; cases e
end
end Go.Proofs.YtkhmbphcjacgnaaGreatDoor
