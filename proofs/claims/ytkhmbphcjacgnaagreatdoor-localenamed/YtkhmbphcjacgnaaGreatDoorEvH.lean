/-
  A run by reckoning: code and calls, over names and over memory.
-/
import Derived.Test.YtkhmbphcjacgnaaGreatDoorEvN
namespace Go.Proofs.YtkhmbphcjacgnaaGreatDoor
open Go Go.RowKit
section
variable {P : Program} {pr : Prim} {G : Nat} {X : Kep} {base : Nat} {E : Ren}
abbrev PrimOk [Ltr] (P : Program) (pr : Prim) (G : Nat) (X : Kep) (base : Nat) : Prop := CallOk P G X base pr
theorem Rep.below [Ltr] {H : RW} {w w' : World} (R : Rep X base E H w) (b : Below w.heap.size w w') : Rep X base E H w' := by
  refine ⟨R.dom, fun i o hi => ?_, R.inj, R.new, fun j hj => Nat.lt_of_lt_of_le (R.lt j hj) b.size, R.bn, fun j hj => (b.block j (R.lt j hj)).trans (R.fx j hj)⟩
  obtain ⟨bk, k, e, h⟩ := R.ok i o hi
  exact ⟨bk, k, e, h.at fun l => b.block bk (h.lt l)⟩
theorem ldv_run [Ltr] {H : RW} {w : World} (R : Rep X base E H w) {t : TypeId} {i o b k : Nat} {v : Value} (hE : E i = some (b, k)) (e : ldv P H t i o = some v) : ∃ v', (loadVar t ⟨b, o, none⟩).run P w = .ok v' w ∧ Rel E v v' := by
  unfold ldv at e
  split at e
  · rename_i n hg hs
    cases hc : cellsOf H i o n with
    | none => rw [hc] at e; cases e
    | some vs =>
      rw [hc] at e
      obtain rfl := Option.some.inj e
      obtain ⟨vs', r, hl, hcell⟩ := cellsOf_rel R hE n o hc
      refine ⟨.agg ⟨vs'⟩, ?_, .agg r⟩
      have hlen : vs'.length = n := by rw [r.length, hl]
      have hload := run_loadCellsFrom (P := P) (w := w) (a := ⟨b, o, none⟩) vs' 0 #[] (fun j u hu => by rw [Addr.add_lit, Nat.zero_add]; exact hcell j u hu)
      rw [hlen] at hload
      show ((Go.isAgg t) >>= _).run P w = _
      rw [Sem.run_bind, svp_run w hg, Result.andThen_ok]
      show ((Go.sizeOf t) >>= _).run P w = _
      rw [Sem.run_bind, svp_run w hs, Result.andThen_ok]
      show ((Go.loadCellsFrom _ 0 n #[]) >>= _).run P w = _
      rw [Sem.run_bind, hload]
      show Result.ok (Value.agg (#[] ++ vs'.toArray)) w = _
      simp
  · rename_i hg
    obtain ⟨v', hv, r⟩ := R.cell hE e
    refine ⟨v', ?_, r⟩
    show ((Go.isAgg t) >>= _).run P w = _
    rw [Sem.run_bind, svp_run w hg, Result.andThen_ok]
    show (Go.load _).run P w = _
    simp [Go.load, Sem.run, hv]
  · cases e
theorem resV_run [Ltr] [Orc] {H : RW} {f : List Value} {x : Array Value} {w : World} (R : Rep X base E H w) (h : RelL E f x.toList) : ∀ {l : List ResultVar} {vs : List Value}, resV P H f l = some vs →
    ∃ vs', (l.mapM (fun r : ResultVar => (match r with | .tmp t => Pure.pure (x.getD t undef) | .cell a t => (asAddr (x.getD a undef) >>= fun y => loadVar t y) : Sem Value))).run P w = .ok vs' w ∧ RelL E vs vs'
  | [], vs, e => by
    obtain rfl := Option.some.inj e
    exact ⟨[], by simp, .nil⟩
  | .tmp t :: l, vs, e => by
    unfold resV at e
    cases hr : resV P H f l with
    | none => rw [hr] at e; cases e
    | some vs0 =>
      rw [hr] at e
      obtain rfl := Option.some.inj e
      obtain ⟨vs', h1, h2⟩ := resV_run R h hr
      refine ⟨x.getD t undef :: vs', ?_, .cons ?_ h2⟩
      · rw [List.mapM_cons, Sem.run_bind]
        dsimp only
        rw [Sem.run_pure, Result.andThen_ok, Sem.run_bind, h1]
        rfl
      · rw [getD_toList]; exact slot_rel h t
  | .cell a t :: l, vs, e => by
    unfold resV at e
    split at e
    · rename_i i o vs0 hsl hr
      cases hl : ldv P H t i o with
      | none => rw [hl] at e; cases e
      | some v =>
        rw [hl] at e
        obtain rfl := Option.some.inj e
        obtain ⟨vs', h1, h2⟩ := resV_run R h hr
        have hp := slot_rel h a
        rw [hsl, ← getD_toList] at hp
        generalize hy : x.getD a undef = y at hp
        cases hp with
        | same hf => cases hf
        | @ptr _ _ b k hE =>
          obtain ⟨v', hv', rv⟩ := ldv_run R hE hl
          refine ⟨v' :: vs', ?_, .cons rv h2⟩
          rw [List.mapM_cons, Sem.run_bind]
          dsimp only
          rw [hy]
          show ((Pure.pure (⟨b, o, none⟩ : Addr) >>= fun y => loadVar t y).run P w).andThen _ = _
          rw [pure_bind, hv', Result.andThen_ok, Sem.run_bind, h1]
          rfl
    · cases e
theorem oneV_rel [Ltr] {vs vs' : List Value} (h : RelL E vs vs') : Rel E (oneV vs) (if h : (⟨vs'⟩ : Array Value).size = 1 then (⟨vs'⟩ : Array Value)[0] else .tuple ⟨vs'⟩) := by
  cases h with
  | nil => exact .tuple .nil
  | cons h t => cases t with
    | nil => exact h
    | cons h2 t2 => simp only [List.size_toArray, List.length_cons]; exact .tuple (.cons h (.cons h2 t2))
theorem results_run [Ltr] [Orc] {H : RW} {w : World} (R : Rep X base E H w) {fn : Func} {f : List Value} {x : Array Value} (h : RelL E f x.toList) {vs : List Value} (e : resV P H f fn.results.toList = some vs) : ∃ v', (results fn x).run P w = .ok v' w ∧ Rel E (oneV vs) v' := by
  obtain ⟨vs', h1, h2⟩ := resV_run (P := P) R h e
  refine ⟨_, ?_, oneV_rel h2⟩
  unfold results
  rw [Sem.run_bind, Array.mapM_eq_mapM_toList]
  rw [Sem.run_map]
  erw [h1]
  rfl
theorem fl3_rel [Ltr] {v : Value} (h : fl3 v = true) : Rel E v v := by
  unfold fl3 at h
  split at h
  · exact .tuple (RelL.flats h)
  · exact .same h
mutual
theorem Rel.back [Ltr] {E F : Ren} (x : Ext E F) {v u u' : Value} : Rel E v u → Rel F v u' → Rel E v u'
  | .same hf, r => by rw [r.flat_eq hf]; exact .same hf
  | .ptr h, r => by
    cases r with
    | same hf => cases hf
    | ptr h' => have e := x _ _ h; rw [h'] at e; obtain ⟨rfl, rfl⟩ := Prod.mk.inj (Option.some.inj e); exact .ptr h
  | .sl h, r => by
    cases r with
    | same hf => cases hf
    | sl h' => have e := x _ _ h; rw [h'] at e; obtain ⟨rfl, rfl⟩ := Prod.mk.inj (Option.some.inj e); exact .sl h
  | .map h, r => by
    cases r with
    | same hf => cases hf
    | map h' => have e := x _ _ h; rw [h'] at e; obtain ⟨rfl, rfl⟩ := Prod.mk.inj (Option.some.inj e); exact .map h
  | .iface h, r => by
    cases r with
    | same hf => cases hf
    | iface h' => exact .iface (h.back x h')
  | .func h k, r => by
    cases r with
    | same hf => exact .same hf
    | func h' k' => exact .func (h.back x h') (k.back x k')
  | .yld h, r => by
    cases r with
    | same hf => cases hf
    | yld h' => have e := x _ _ h; rw [h'] at e; obtain ⟨rfl, rfl⟩ := Prod.mk.inj (Option.some.inj e); exact .yld h
  | .agg h, r => by
    cases r with
    | same hf => cases hf
    | agg h' => exact .agg (h.back x h')
  | .tuple h, r => by
    cases r with
    | same hf => exact .same hf
    | tuple h' => exact .tuple (h.back x h')
  | .ltr _ _, r => by
    cases r with
    | same hf => cases hf
    | ltr h' hs' => exact .ltr h' hs'
  | .prd _ _, r => by
    cases r with
    | same hf => cases hf
    | prd h' hs' => exact .prd h' hs'
  | .any, _ => .any
  | .sll h _, r => by
    cases r with
    | same hf => cases hf
    | sll h' hs' => have e := x _ _ h; rw [h'] at e; obtain ⟨rfl, rfl⟩ := Prod.mk.inj (Option.some.inj e); exact .sll h hs'
  | .ptl h _, r => by
    cases r with
    | same hf => cases hf
    | ptl h' hs' => have e := x _ _ h; rw [h'] at e; obtain ⟨rfl, rfl⟩ := Prod.mk.inj (Option.some.inj e); exact .ptl h hs'
theorem RelL.back [Ltr] {E F : Ren} (x : Ext E F) {v u u' : List Value} : RelL E v u → RelL F v u' → RelL E v u'
  | .nil, r => by cases r; exact .nil
  | .cons h t, r => by
    cases r with
    | cons h' t' => exact .cons (h.back x h') (t.back x t')
end
theorem RelM.back [Ltr] {E F : Ren} (x : Ext E F) : ∀ {v u u' : List MapEntry}, RelM E v u → RelM F v u' → RelM E v u'
  | _, _, _, .nil, r => by cases r; exact .nil
  | _, _, _, .cons h t, r => by
    cases r with
    | cons h' t' => exact .cons (h.back x h') (t.back x t')
theorem Ok.back [Ltr] [Orc] {E F : Ren} (x : Ext E F) {k : Nat} {o : Ob} {b b' : Option Obj} (h : Ok E k o b) (h' : Ok F k o b') : Ok E k o b' := by
  cases o with
  | gone => trivial
  | ro vs =>
    obtain ⟨c, t, fz, e, r⟩ := h
    obtain ⟨c', t', fz', e', r'⟩ := h'
    refine ⟨c', t', fz', e', fun j v hj => ?_⟩
    obtain ⟨u, _, h2⟩ := r j v hj
    obtain ⟨u', h1', h2'⟩ := r' j v hj
    exact ⟨u', h1', h2.back x h2'⟩
  | row vs t => obtain ⟨xs, e, r⟩ := h; obtain ⟨xs', e', r'⟩ := h'; exact ⟨xs', e', r.back x r'⟩
  | own vs t sz => obtain ⟨xs, ys, e, r, l⟩ := h; obtain ⟨xs', ys', e', r', l'⟩ := h'; exact ⟨xs', ys', e', r.back x r', l'⟩
  | mp es c => obtain ⟨es', e, r⟩ := h; obtain ⟨es2, e2, r2⟩ := h'; exact ⟨es2, e2, r.back x r2⟩
  | lp st pd ts ps as bd => obtain ⟨fn, xs, db, e, r⟩ := h; obtain ⟨fn', xs', db', e', r'⟩ := h'; exact ⟨fn', xs', db', e', r.back x r'⟩
  | df => exact h'
  | it s p => exact h'
  | opq i => exact h'
theorem look_drop {n i : Nat} (hi : i < n) : ∀ (k : Nat) {h : List (Nat × Ob)}, (h.take k).all (fun p => Nat.ble n p.1) = true → look i (h.drop k) = look i h
  | 0, h, _ => rfl
  | k + 1, [], _ => rfl
  | k + 1, (j, o) :: h, e => by
    simp only [List.take_succ_cons, List.all_cons, Bool.and_eq_true] at e
    have hj := Nat.le_of_ble_eq_true e.1
    have hb : Nat.beq i j = false := by
      cases hb : Nat.beq i j with
      | true => have := Nat.eq_of_beq_eq_true hb; omega
      | false => rfl
    rw [List.drop_succ_cons, look_drop hi k e.2]
    simp only [look, hb, cond_false]
theorem fl3_eq [Ltr] {F : Ren} {v v' : Value} (h : fl3 v = true) (r : Rel F v v') : v' = v := by
  unfold fl3 at h
  split at h
  · rename_i l
    cases r with
    | same hf => rfl
    | tuple r' =>
      have : ∀ {l l' : List Value}, l.all flat = true → RelL F l l' → l' = l := by
        intro l
        induction l with
        | nil => intro l' _ r; cases r; rfl
        | cons a l ih =>
          intro l' h r
          simp only [List.all_cons, Bool.and_eq_true] at h
          cases r with
          | cons h1 t1 => rw [h1.flat_eq h.1, ih h.2 t1]
      rw [this h r']
  · exact r.flat_eq h
theorem gcCall_ok [Ltr] [Orc] {call : Caller} (hc : CallOk P G X base call) : CallOk P G X base (gcCall call) := by
  intro f args H v H1 E w args' hR hG ha e
  unfold gcCall at e
  cases hk : call f args H with
  | none => rw [hk] at e; cases e
  | some p =>
    obtain ⟨u, H2⟩ := p
    rw [hk] at e
    dsimp only at e
    refine Calls.mono (hc f args H u H2 E w args' hR hG ha hk) fun en w' p => ?_
    cases hb : (fl3 u && eqH (H2.h.drop (H2.h.length - H.h.length)) H.h && (H2.h.take (H2.h.length - H.h.length)).all (fun p => Nat.ble H.n p.1)) with
    | false =>
      rw [hb] at e
      obtain ⟨rfl, rfl⟩ := Prod.mk.inj (Option.some.inj e)
      exact p
    | true =>
      rw [hb] at e
      obtain ⟨rfl, rfl⟩ := Prod.mk.inj (Option.some.inj e)
      simp only [Bool.and_eq_true] at hb
      obtain ⟨v', F, rfl, x, R1, b, rv⟩ := p
      refine ⟨v', E, rfl, Ext.refl E, ⟨hR.dom, fun i o hi => ?_, hR.inj, hR.new, R1.lt, hR.bn, R1.fx⟩, b, ?_⟩
      · obtain ⟨b0, k0, e0, h0⟩ := hR.ok i o hi
        have hin : i < H.n := Nat.lt_of_not_le fun h => by rw [hR.dom i h] at e0; cases e0
        have hi2 : look i H2.h = some o := by rw [← look_drop hin _ hb.2, eqH_eq hb.1.2]; exact hi
        obtain ⟨b1, k1, e1, h1⟩ := R1.ok i o hi2
        have e2 := x _ _ e0
        rw [e1] at e2
        obtain ⟨rfl, rfl⟩ := Prod.mk.inj (Option.some.inj e2)
        exact ⟨b1, k1, e0, h0.back x h1⟩
      · rw [fl3_eq hb.1.1 rv]; exact fl3_rel hb.1.1
theorem callEv_sound [Ltr] [Orc] (hp : PrimOk P pr G X base) {r : Code → St → Option (Exit × St)} (hr : CodeOk P G X base false r) : CallOk P G X base (callEv P pr base r) := by
  intro f args H v H1 E w args' hR hG ha e
  unfold callEv at e
  cases hpr : pr f args H with
  | some u =>
    obtain ⟨u, H2⟩ := u
    rw [hpr] at e
    obtain ⟨rfl, rfl⟩ := Prod.mk.inj (Option.some.inj e)
    exact hp f args H u H2 E w args' hR hG ha hpr
  | none =>
  rw [hpr] at e
  dsimp only at e
  cases hf : P.funcs[f]? with
  | none => rw [hf] at e; cases e
  | some fn =>
    rw [hf] at e
    dsimp only at e
    cases hb : fn.body with
    | none => rw [hb] at e; cases e
    | some c =>
      rw [hb] at e
      dsimp only at e
      have fr : FR G X base E ⟨args ++ List.replicate (fn.ntmps - args.length) undef, H, []⟩ { tmps := (⟨args'⟩ : Array Value) ++ Array.replicate (fn.ntmps - (⟨args'⟩ : Array Value).size) undef, defers := [] } w := by
        refine ⟨rfl, ?_, hR, hG⟩
        have := ha.append (RelL.undefs (E := E) (fn.ntmps - args.length))
        simpa [ha.length] using this
      cases hc : r c ⟨args ++ List.replicate (fn.ntmps - args.length) undef, H, []⟩ with
      | none => rw [hc] at e; cases e
      | some p =>
        obtain ⟨x, s⟩ := p
        rw [hc] at e
        obtain ⟨hx, e3⟩ := cond_some e
        clear e
        have hcall : CallsIn (Wd none) 0 P f ⟨args'⟩ w fun e w' => ∃ v' F, e = .returned v' ∧ Ext E F ∧ Rep X base F H1 w' ∧ Kp X w w' ∧ Rel F v v' := by
          refine callsIn_of_wp_marks hf hb (wd_fn f) (wpIn_mono (hr none 0 (.inr rfl) c _ x s E _ w fr hc) ?_) rfl
          rintro e2 a2 w2 ⟨rfl, F, x1, R, b1⟩
          cases ht : takeAll base s.ds s.H with
          | none => rw [ht] at e3; cases e3
          | some H2 =>
            rw [ht] at e3
            dsimp only at e3
            have fin : LeavesInM (Wd none) 0 P fn a2.tmps (fun e w' => ∃ v' F, e = .returned v' ∧ Ext E F ∧ Rep X base F H1 w' ∧ Kp X w w' ∧ Rel F v v') a2.defers .returning w2 := by
              refine takeAll_leaves R.r R.d ht fun w' r1 k1 => ?_
              cases hv : resV P H2 s.f fn.results.toList with
              | none => rw [hv] at e3; cases e3
              | some vs =>
                rw [hv] at e3
                obtain ⟨rfl, rfl⟩ := Prod.mk.inj (Option.some.inj e3)
                obtain ⟨v', h1, h2⟩ := results_run r1 R.t hv
                exact ⟨v', h1, v', F, rfl, x1, r1, b1.trans k1, h2⟩
            cases e2 with
            | normal => exact fin
            | ret => exact fin
            | _ => cases hx
        exact callsIn_wide.1 hcall
theorem codeEv_sound [Ltr] [Orc] [OrcOk P G X base] (hm : P.follows .mixedOrders = true) (hpr : PrimOk P pr G X base) : ∀ n rd, CodeOk P G X base rd (codeEv P pr G base n rd)
  | 0, _ => fun ro k _ c s x s1 E a w _ e => by cases e
  | n + 1, rd => by
    have ih := codeEv_sound hm hpr n
    intro ro k hro c s x s1 E a w h e
    have ihc := fun c => ih rd ro k hro c
    have now : ∀ {x : Exit}, Post G X base E w x s x a w := fun {x} => ⟨rfl, E, Ext.refl E, h, Kp.refl _ _⟩
    cases c with
    | skip =>
      obtain ⟨rfl, rfl⟩ := Prod.mk.inj (Option.some.inj e)
      exact wpIn_skip now
    | label l =>
      obtain ⟨rfl, rfl⟩ := Prod.mk.inj (Option.some.inj e)
      exact wpIn_label now
    | ret =>
      obtain ⟨rfl, rfl⟩ := Prod.mk.inj (Option.some.inj e)
      exact wpIn_ret now
    | exit id =>
      obtain ⟨rfl, rfl⟩ := Prod.mk.inj (Option.some.inj e)
      exact wpIn_exit now
    | seq p q =>
      unfold codeEv at e
      dsimp only at e
      refine wpIn_seq ?_
      cases hp : codeEv P pr G base n rd p s with
      | none => rw [hp] at e; cases e
      | some y =>
        obtain ⟨y, s2⟩ := y
        rw [hp] at e
        refine wpIn_mono (ihc p s y s2 E a w h hp) ?_
        rintro e2 a2 w2 ⟨rfl, F, x1, R, b1⟩
        cases e2 with
        | normal => exact wpIn_mono (ihc q s2 x s1 F a2 w2 R e) fun _ _ _ p => p.trans x1 b1
        | _ =>
          obtain ⟨rfl, rfl⟩ := Prod.mk.inj (Option.some.inj e)
          exact ⟨rfl, F, x1, R, b1⟩
    | cond o p q =>
      unfold codeEv at e
      dsimp only at e
      cases hk : okC G o with
      | false => rw [hk] at e; cases e
      | true =>
        cases hv : ev s.f o with
        | bool t =>
          rw [hk, hv] at e
          have hr := ev_rel h hk
          rw [hv] at hr
          refine wpIn_cond (t := t) hr.bool ?_
          cases t with
          | true => exact ihc p s x s1 E a w h e
          | false => exact ihc q s x s1 E a w h e
        | _ => rw [hk, hv] at e; cases e
    | block id p =>
      unfold codeEv at e
      dsimp only at e
      refine wpIn_block ?_
      cases hp : codeEv P pr G base n rd p s with
      | none => rw [hp] at e; cases e
      | some y =>
        obtain ⟨y, s2⟩ := y
        rw [hp] at e
        refine wpIn_mono (ihc p s y s2 E a w h hp) ?_
        rintro e2 a2 w2 ⟨rfl, F, x1, R, b1⟩
        cases e2 with
        | exit j =>
          obtain ⟨rfl, rfl⟩ := Prod.mk.inj (Option.some.inj e)
          show (if j = id then Post G X base E w _ s2 .normal a2 w2 else Post G X base E w _ s2 (.exit j) a2 w2)
          cases hb : Nat.beq j id with
          | true => rw [if_pos (Nat.eq_of_beq_eq_true hb)]; exact ⟨rfl, F, x1, R, b1⟩
          | false => rw [if_neg (fun h => by rw [h, Nat.beq_refl] at hb; cases hb)]; exact ⟨rfl, F, x1, R, b1⟩
        | _ =>
          obtain ⟨rfl, rfl⟩ := Prod.mk.inj (Option.some.inj e)
          exact ⟨rfl, F, x1, R, b1⟩
    | loop p =>
      unfold codeEv at e
      dsimp only at e
      cases hoc : Orc.c (.loop p) s with
      | some y =>
        rw [hoc] at e
        obtain rfl := Option.some.inj e
        exact OrcOk.cok (P := P) (G := G) (X := X) (base := base) ro k (.loop p) s x s1 E a w h hoc
      | none =>
      rw [hoc] at e
      dsimp only at e
      refine wp_loop_ind (m := n) (fun m a' w' => ∃ s' F, FR G X base F s' a' w' ∧ Ext E F ∧ Kp X w w' ∧ loopEv (codeEv P pr G base n rd p) m s' = some (x, s1)) ?_ ?_ ⟨s, E, h, Ext.refl E, Kp.refl _ _, e⟩
      · rintro a w ⟨s', F, _, _, _, e⟩
        cases e
      · rintro m a' w' ⟨s', F, h', x0, b0, e⟩
        unfold loopEv at e
        cases hp : codeEv P pr G base n rd p s' with
        | none => rw [hp] at e; cases e
        | some y =>
          obtain ⟨y, s2⟩ := y
          rw [hp] at e
          refine wpIn_mono (ihc p s' y s2 F a' w' h' hp) ?_
          rintro e2 a2 w2 ⟨rfl, K, x1, R, b1⟩
          cases e2 with
          | normal => exact ⟨s2, K, R, x0.trans x1, b0.trans b1, e⟩
          | _ =>
            obtain ⟨rfl, rfl⟩ := Prod.mk.inj (Option.some.inj e)
            exact ⟨rfl, K, x0.trans x1, R, b0.trans b1⟩
    | region id ops d =>
      unfold codeEv at e
      cases d with
      | true =>
        dsimp only at e
        cases hp : drawEv P G base (gcCall (callEv P pr base (codeEv P pr G base n false))) ops s with
        | none => rw [hp] at e; cases e
        | some s2 =>
          rw [hp] at e
          obtain ⟨rfl, rfl⟩ := Prod.mk.inj (Option.some.inj e)
          exact drawEv_sound hm (gcCall_ok (callEv_sound hpr (ih false))) h hp
      | false =>
        dsimp only at e
        cases hp : evOpsF P G base (callEv P pr base (codeEv P pr G base n false)) (roundEv base (codeEv P pr G base n true)) ops ops.toList s with
        | none => rw [hp] at e; cases e
        | some s2 =>
          rw [hp] at e
          obtain ⟨rfl, rfl⟩ := Prod.mk.inj (Option.some.inj e)
          have hp' := evOpsF_eq ops.toList 0 (fun j o hj => by simpa using hj) hp
          rw [Array.length_toList, ← List.range_eq_range'] at hp'
          exact wpIn_region (evOps_sound (callEv_sound hpr (ih false)) (roundEv_sound (ih true)) _ h hp')
    | rangeFunc g ps as bd =>
      unfold codeEv at e
      dsimp only at e
      cases rd with
      | true => cases e
      | false =>
        obtain rfl : ro = none := by
          rcases hro with h | h
          · cases h
          · exact h
        exact rangeEv_sound (callEv_sound hpr (ih false)) h e
    | _ => cases e
/-- a call, by reckoning -/
theorem run_call [Ltr] [Orc] {w : World} [OrcOk P G (kep w) base] (hm : P.follows .mixedOrders = true) {f : FuncId} {H : RW} {v : Value} {args args' : List Value} (hpr : PrimOk P pr G (kep w) base) (n : Nat) (hR : Rep (kep w) base E H w) (hG : Gl G E) (ha : RelL E args args')
    (e : (callEv P pr base (codeEv P pr G base n false) f args H).map (·.1) = some v) : Calls P f ⟨args'⟩ w fun e w' => ∃ v' F, e = .returned v' ∧ Ext E F ∧ Rel F v v' ∧ Below w.heap.size w w' := by
  cases hc : callEv P pr base (codeEv P pr G base n false) f args H with
  | none => rw [hc] at e; cases e
  | some p =>
    obtain ⟨u, H1⟩ := p
    rw [hc] at e
    obtain rfl : u = v := Option.some.inj e
    refine Calls.mono (callEv_sound hpr (codeEv_sound hm hpr n false) f args H u H1 E w args' hR hG ha hc) fun e w' p => ?_
    obtain ⟨v', F, rfl, x, _, b, r⟩ := p
    exact ⟨v', F, rfl, x, r, ⟨b.os, b.tape, b.output, b.size, b.block⟩⟩
end
end Go.Proofs.YtkhmbphcjacgnaaGreatDoor
