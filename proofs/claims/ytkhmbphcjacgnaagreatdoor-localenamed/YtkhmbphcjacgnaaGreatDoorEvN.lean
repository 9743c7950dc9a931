/-
  A run by reckoning: a round of a loop over a function; the statement.
-/
import Derived.Test.YtkhmbphcjacgnaaGreatDoorEvM
namespace Go.Proofs.YtkhmbphcjacgnaaGreatDoor
open Go Go.RowKit
section
variable {P : Program} {pr : Prim} {G : Nat} {X : Kep} {base : Nat} {E : Ren}
def CodeOk [Ltr] (P : Program) (G : Nat) (X : Kep) (base : Nat) (rd : Bool) (r : Code → St → Option (Exit × St)) : Prop :=
  ∀ (ro : Option Nat) (n : Nat), (rd = true ∨ ro = none) → ∀ c s x s1 E a w, FR G X base E s a w → r c s = some (x, s1) → c.wpIn (Wd ro) n P (Post G X base E w x s1) a w
theorem Rep.loop [Ltr] {H : RW} {w : World} (R : Rep X base E H w) {l b k : Nat} {st : LoopState} {pd : Option Code} {ts : List Value} {ps : Array Tmp} {as bd : Code} (hl : look l H.h = some (.lp st pd ts ps as bd)) (hE : E l = some (b, k)) :
    ∃ fn xs db, w.heap[b]? = some (.loop { state := st, pending := pd, fn := fn, tmps := ⟨xs⟩, params := ps, assign := as, body := bd, defers := db }) ∧ RelL E ts xs := by
  obtain ⟨b', k', e', h'⟩ := R.ok l _ hl
  rw [hE] at e'; obtain ⟨rfl, rfl⟩ := Prod.mk.inj (Option.some.inj e')
  exact h'
theorem roundEv_sound [Ltr] [Orc] {r : Code → St → Option (Exit × St)} (hr : CodeOk P G X base true r) : RoundOk P G X base (roundEv base r) := by
  intro l args H v H1 E w b k args' hR hG hE ha e
  unfold roundEv at e
  split at e
  · rename_i pd ts ps as bd hl
    obtain ⟨hck, e⟩ := cond_some e
    simp only [Bool.and_eq_true] at hck
    have hbl := Nat.le_of_ble_eq_true hck.1
    have hlen := Nat.eq_of_beq_eq_true hck.2
    obtain ⟨fn, xs, db, hx, rx⟩ := hR.loop hl hE
    split at e
    · rename_i s1 has
      split at e
      · rename_i pd1 ts1 ps1 as1 bd1 hl1
        split at e
        · rename_i e2 s2 hbd
          split at e
          · rename_i st2 pd2 ts2 ps2 as2 bd2 j hl2 hj
            obtain ⟨rfl, rfl⟩ := Prod.mk.inj (Option.some.inj e)
            refine ⟨fn, ((ps.zip ⟨args'⟩).foldl (fun tmps (t, a) => tmps.setIfInBounds t a) ⟨xs⟩), as, bd, ?_, fun n => ?_⟩
            · show (Instr.getLoop b >>= _).run P w = _
              rw [Sem.run_bind, run_getLoop hx, Result.andThen_ok]
              dsimp only
              rw [if_neg (by simp [ha.length, hlen])]
              rfl
            · have hfold : ((ps.zip ⟨args'⟩).foldl (fun tmps (t, a) => tmps.setIfInBounds t a) (⟨xs⟩ : Array Value)).toList = (ps.toList.zip args').foldl (fun (f : List Value) (p : Tmp × Value) => f.set p.1 p.2) xs := by
                rw [← Array.foldl_toList]
                have := foldl_list (ps.zip (⟨args'⟩ : Array Value)).toList ⟨xs⟩
                rw [Array.toList_zip] at this ⊢
                exact this
              have fr : FR G X base E ⟨setp ts ps.toList args, H, []⟩ { tmps := (ps.zip ⟨args'⟩).foldl (fun tmps (t, a) => tmps.setIfInBounds t a) ⟨xs⟩, defers := [] } w := by
                refine ⟨rfl, ?_, hR, hG⟩
                rw [hfold]
                exact setp_rel ps.toList rx ha
              refine roundIn_of_wpIn (wd_fn fn) ?_
              refine wpIn_mono (hr (some b) n (.inl rfl) as _ .normal s1 E _ w fr has) ?_
              rintro en a1 w1 ⟨rfl, F, x1, R1, b1⟩
              obtain ⟨fn1, xs1, db1, hx1, rx1⟩ := R1.r.loop hl1 (x1 _ _ hE)
              obtain ⟨R2, b2⟩ := R1.r.re (o' := .lp .busy pd1 ts1 ps1 as1 bd1) (y := .loop { state := .busy, pending := pd1, fn := fn1, tmps := ⟨xs1⟩, params := ps1, assign := as1, body := bd1, defers := db1 }) hbl hl1 rfl (x1 _ _ hE) ⟨fn1, xs1, db1, rfl, rx1⟩
              refine ⟨_, ?_, wpIn_mono (hr (some b) n (.inl rfl) bd ⟨s1.f, s1.H.re l (.lp .busy pd1 ts1 ps1 as1 bd1), s1.ds⟩ e2 s2 F a1 _ ⟨R1.d, R1.t, R2, R1.g⟩ hbd) ?_⟩
              · show (Instr.getLoop b >>= _).run P w1 = _
                rw [Sem.run_bind, run_getLoop hx1, Result.andThen_ok, Sem.run_bind, run_setLoop hx1, Result.andThen_ok]
                rfl
              rintro en a2 w2 ⟨rfl, K, x2, R3, b3⟩
              obtain ⟨fn2, xs2, db2, hx2, rx2⟩ := R3.r.loop hl2 (x2 _ _ (x1 _ _ hE))
              obtain ⟨R4, b4⟩ := R3.r.re (o' := .lp (if j.isNone then .ready else .done) j ts2 ps2 as2 bd2) (y := .loop { state := if j.isNone then .ready else .done, pending := j, fn := fn2, tmps := ⟨xs2⟩, params := ps2, assign := as2, body := bd2, defers := db2 }) hbl hl2 rfl (x2 _ _ (x1 _ _ hE)) ⟨fn2, xs2, db2, rfl, rx2⟩
              have hend : (Instr.endRound b j).run P w2 = .ok (.bool j.isNone) { w2 with heap := w2.heap.setIfInBounds b (.loop { state := if j.isNone then .ready else .done, pending := j, fn := fn2, tmps := ⟨xs2⟩, params := ps2, assign := as2, body := bd2, defers := db2 }) } := by
                show (Instr.getLoop b >>= _).run P w2 = _
                rw [Sem.run_bind, run_getLoop hx2, Result.andThen_ok, Sem.run_bind, run_setLoop hx2, Result.andThen_ok]
                rfl
              have fin : ∃ v w', (Instr.endRound b j).run P w2 = .ok v w' ∧ ∃ v' F, Ending.returned v = .returned v' ∧ Ext E F ∧ Rep X base F (s2.H.re l (.lp (if j.isNone then .ready else .done) j ts2 ps2 as2 bd2)) w' ∧ Kp X w w' ∧ Rel F (.bool j.isNone) v' :=
                ⟨_, _, hend, _, K, rfl, x1.trans x2, R4, ((b1.trans b2).trans b3).trans b4, .same rfl⟩
              cases en with
              | normal => obtain rfl := Option.some.inj hj; exact fin
              | ret => obtain rfl := Option.some.inj hj; exact fin
              | exit id => obtain rfl := Option.some.inj hj; exact fin
              | _ => cases hj
          · cases e
        · cases e
      · cases e
    · cases e
  · cases e
theorem rangeEv_sound [Ltr] [Orc] {call : Caller} (hc : CallOk P G X base call) {g : Operand} {ps : Array Tmp} {as bd : Code} {s s1 : St} {x : Exit} {a : Act} {w : World} {n : Nat} (h : FR G X base E s a w) (e : rangeEv P G call g ps as bd s = some (x, s1)) :
    (Code.rangeFunc g ps as bd).wpIn (Wd none) n P (Post G X base E w x s1) a w := by
  unfold rangeEv at e
  split at e
  · rename_i f first captured hk hev
    obtain ⟨hok, e⟩ := cond_some e
    split at e
    · rename_i v H2 hcl
      split at e
      · rename_i st pd ts ps2 as2 bd2 hl2
        cases hbz : isBusy st with
        | true => rw [hbz] at e; cases e
        | false =>
          rw [hbz] at e
          dsimp only [cond_false] at e
          cases hgo : goOn pd with
          | none => rw [hgo] at e; cases e
          | some x' =>
            rw [hgo] at e
            obtain ⟨rfl, rfl⟩ := Prod.mk.inj (Option.some.inj e)
            refine wpIn_rangeFunc fun fn _ => ?_
            have hg := ev_rel h hk
            rw [hev] at hg
            let w1 : World := { w with heap := w.heap.push (.deferred (some [])) }
            let lp : Loop := { state := .ready, pending := none, fn := fn, tmps := a.tmps, params := ps, assign := as, body := bd, defers := w.heap.size }
            let w2 : World := { w1 with heap := w1.heap.push (.loop lp) }
            obtain ⟨p1, p2, p3⟩ := h.r.push (o := .df) (x := .deferred (some [])) (k := 0) (fun F x => rfl)
            obtain ⟨q1, q2, q3⟩ := p1.push (o := .lp .ready none s.f ps as bd) (x := .loop lp) (k := 0) (fun F x => ⟨fn, a.tmps.toList, w.heap.size, rfl, RelL.mono (p2.trans x) h.t⟩)
            have hsz : w1.heap.size = w.heap.size + 1 := by simp [w1]
            have hyl : Rel ((E.new s.H.n w.heap.size 0).new (s.H.push .df).n w1.heap.size 0) (.func (.yield (s.H.n + 1)) ⟨[]⟩ ⟨[]⟩) (.func (.yield w1.heap.size) ⟨[]⟩ ⟨[]⟩) := .yld Ren.at
            have mk : ∀ first' captured' : List Value, a.eval g = .func (.func f) ⟨first'⟩ ⟨captured'⟩ → RelL E first first' → RelL E captured captured' →
                ∃ (l : Nat) (mark : List Deferred) (w₁ : World) (d : Deferred) (w₁' : World) (f : FuncId) (args : Array Value) (w₂ : World),
                  (Instr.enterLoop fn a.tmps ps as bd (Wd none).round).run P w = .ok (l, mark) w₁ ∧ (resolve a.eval (rangeCall g l) 0).run P w₁ = .ok d w₁' ∧
                  (∀ f', Target.leads P w₁' d.target d.args = some f' → (Wd none).fn f') ∧ (invoke d.target d.args).run P w₁' = .ok (.enter f args) w₂ ∧
                  ((Wd none).depth.isSome = true → 1 ≤ n) ∧ CallsIn (Wd none) (n - 1) P f args w₂ (rangePost (Wd none) n P l (Post G X base E w x' ⟨s.f, H2.re (s.H.n + 1) (.lp .exhausted pd ts ps2 as2 bd2), s.H.n :: s.ds⟩) { a with defers := mark ++ a.defers }) := by
              intro first' captured' hag r1 r2
              refine ⟨w1.heap.size, [{ target := .collected w.heap.size, args := #[] }], w2, { target := .fn (.func f) ⟨captured'⟩, args := ⟨first'⟩ ++ #[.func (.yield w1.heap.size) #[] #[]] }, w2, f, ⟨first' ++ [.func (.yield w1.heap.size) ⟨[]⟩ ⟨[]⟩] ++ captured'⟩, w2, rfl, ?_, fun f' _ => wd_fn f', ?_, wd_depth, ?_⟩
              · simp only [resolve, Deferred.ofValue, hag]
                simp [Act.eval]
              · show (callFunc f _).run P w2 = _
                rw [run_callFunc_of hok w2]
                simp
              · have ra : RelL ((E.new s.H.n w.heap.size 0).new (s.H.push .df).n w1.heap.size 0) (first ++ [.func (.yield (s.H.n + 1)) ⟨[]⟩ ⟨[]⟩] ++ captured) (first' ++ [.func (.yield w1.heap.size) ⟨[]⟩ ⟨[]⟩] ++ captured') :=
                  ((r1.mono (p2.trans q2)).append (.cons hyl .nil)).append (r2.mono (p2.trans q2))
                refine CallsIn.mono (calls_wd (hc f _ _ v H2 _ w2 _ q1 (h.g.mono (p2.trans q2)) ra hcl)) fun en w3 p => ?_
                obtain ⟨v', F, rfl, x1, R3, b3, _⟩ := p
                have hEl : F (s.H.n + 1) = some (w1.heap.size, 0) := x1 _ _ Ren.at
                have hED : F s.H.n = some (w.heap.size, 0) := x1 _ _ (q2 _ _ Ren.at)
                obtain ⟨fn3, xs3, db3, hx3, rx3⟩ := R3.loop hl2 hEl
                have hbl : base ≤ s.H.n + 1 := Nat.le_succ_of_le h.r.bn
                obtain ⟨R4, b4⟩ := R3.re (o' := .lp .exhausted pd ts ps2 as2 bd2) (y := .loop { state := .exhausted, pending := pd, fn := fn3, tmps := ⟨xs3⟩, params := ps2, assign := as2, body := bd2, defers := db3 }) hbl hl2 rfl hEl ⟨fn3, xs3, db3, rfl, rx3⟩
                have hstb : (st == LoopState.busy) = false := by cases st <;> first | rfl | cases hbz
                refine ⟨pd, { w3 with heap := w3.heap.setIfInBounds w1.heap.size (.loop { state := .exhausted, pending := pd, fn := fn3, tmps := ⟨xs3⟩, params := ps2, assign := as2, body := bd2, defers := db3 }) }, ?_, ?_⟩
                · show (Instr.getLoop w1.heap.size >>= _).run P w3 = _
                  rw [Sem.run_bind, run_getLoop hx3, Result.andThen_ok]
                  dsimp only
                  rw [hstb]
                  show (Go.setObj _ _ >>= _).run P w3 = _
                  rw [Sem.run_bind, run_setLoop hx3, Result.andThen_ok]
                  rfl
                · have post : ∀ y : Exit, y = x' → Post G X base E w x' ⟨s.f, H2.re (s.H.n + 1) (.lp .exhausted pd ts ps2 as2 bd2), s.H.n :: s.ds⟩ y { a with defers := [{ target := .collected w.heap.size, args := #[] }] ++ a.defers }
                      { w3 with heap := w3.heap.setIfInBounds w1.heap.size (.loop { state := .exhausted, pending := pd, fn := fn3, tmps := ⟨xs3⟩, params := ps2, assign := as2, body := bd2, defers := db3 }) } := by
                    intro y hy
                    have hx := (p2.trans q2).trans x1
                    exact ⟨hy, F, hx, ⟨⟨w.heap.size, 0, a.defers, hED, rfl, h.d.mono hx⟩, RelL.mono hx h.t, R4, h.g.mono hx⟩, ((p3.trans q3).trans b3).trans b4⟩
                  cases pd with
                  | none => obtain rfl := Option.some.inj hgo; exact post _ rfl
                  | some c =>
                    cases c with
                    | ret => obtain rfl := Option.some.inj hgo; exact wpIn_ret (post _ rfl)
                    | exit id => obtain rfl := Option.some.inj hgo; exact wpIn_exit (post _ rfl)
                    | _ => cases hgo
            generalize hz : a.eval g = z at hg
            cases hg with
            | same hf =>
              cases first with
              | cons p l => cases hf
              | nil => cases captured with
                | cons p l => cases hf
                | nil => exact mk [] [] hz .nil .nil
            | func r1 r2 => exact mk _ _ hz r1 r2
      · cases e
    · cases e
  · cases e
end
end Go.Proofs.YtkhmbphcjacgnaaGreatDoor
