/-
  A run by reckoning: maps of flat things.
-/
import Derived.Test.YtcplkbflpopoaaaGreatDoorEvC
namespace Go.Proofs.YtcplkbflpopoaaaGreatDoor
open Go Go.RowKit
/-- a map is put -/
def mup (P : Program) (base : Nat) (H : RW) (t : TypeId) (m k v : Value) : Option RW :=
  match svp P (Go.underlying t), m with
  | some (.map kt _), .map (some i) => match look i H.h with
    | some (.mp es c) => bif Nat.ble base i && flat k && flat v then match svp P (Instr.checkKey false 10000 kt k), svp P (Instr.findKey kt k es) with
        | some (), some (some (j, _)) => match svp P (Instr.keyThatStays (((⟨es⟩ : Array MapEntry)[j]?.map (·.key)).getD k) k) with
          | some k' => some { H with h := upd i (.mp ((⟨es⟩ : Array MapEntry).modify j fun e => { e with key := k', val := v }).toList c) H.h }
          | none => none
        | some (), some none => some { H with h := upd i (.mp (es ++ [{ key := k, val := v, born := c }]) (c + 1)) H.h }
        | _, _ => none
      else none
    | _ => none
  | _, _ => none
def mlk (P : Program) (H : RW) (t : TypeId) (m k : Value) (ok : Bool) : Option Value :=
  match svp P (Go.underlying t), m with
  | some (.map kt el), .map (some i) => match look i H.h with
    | some (.mp es _) => match svp P (Instr.checkKey (⟨es⟩ : Array MapEntry).isEmpty 10000 kt k), svp P (Instr.findKey kt k es) with
      | some (), some (some (_, v)) => bif flat v then some (bif ok then .tuple ⟨[v, .bool true]⟩ else v) else none
      | some (), some none => match svp P (Go.zeroValue el) with
        | some v => bif flat v then some (bif ok then .tuple ⟨[v, .bool false]⟩ else v) else none
        | none => none
      | _, _ => none
    | _ => none
  | _, _ => none
theorem cond_some' {α : Type} {b : Bool} {x : Option α} {y : α} (h : (bif b then x else none) = some y) : b = true ∧ x = some y := by
  cases b with
  | true => exact ⟨rfl, h⟩
  | false => cases h
section
variable {P : Program} {X : Kep} {base : Nat} {E : Ren} {H : RW} {w w' : World}
theorem Rep.setMap [Ltr] (R : Rep X base E H w) {i b k : Nat} {es es' : List MapEntry} {c c' : Nat} (hbi : base ≤ i) (hl : look i H.h = some (.mp es c)) (e : E i = some (b, k)) :
    w.heap[b]? = some (.map ⟨es⟩ c) ∧ Rep X base E { H with h := upd i (.mp es' c') H.h } { w with heap := w.heap.setIfInBounds b (.map ⟨es'⟩ c') } ∧ Kp X w { w with heap := w.heap.setIfInBounds b (.map ⟨es'⟩ c') } := by
  obtain ⟨b', k', e', ho⟩ := R.ok i _ hl
  rw [e] at e'; obtain ⟨rfl, rfl⟩ := Prod.mk.inj (Option.some.inj e')
  have hx : w.heap[b]? = some (.map ⟨es⟩ c) := ho
  have hb : b < w.heap.size := (Array.getElem?_eq_some_iff.1 hx).1
  have hB : ¬ X b := R.new i b k hbi e
  refine ⟨hx, ⟨R.dom, ?_, ?_, R.new, fun j hj => by simpa using R.lt j hj, R.bn, fun j hj => by have : b ≠ j := fun h => hB (h ▸ hj); rw [← R.fx j hj]; simp [Array.getElem?_setIfInBounds_ne this]⟩, ⟨rfl, rfl, rfl, by simp, fun j hj => ?_⟩⟩
  · intro j oj hj
    by_cases hji : j = i
    · subst hji
      rw [look_upd hl] at hj
      obtain rfl := Option.some.inj hj
      exact ⟨b, k, e, by show _ = _; simp [hb]⟩
    · rw [look_upd_ne hji] at hj
      obtain ⟨b2, k2, e2, h2⟩ := R.ok j oj hj
      refine ⟨b2, k2, e2, h2.at fun lv => ?_⟩
      have hbb : b ≠ b2 := fun hbb => hji (R.inj j i oj _ b2 k2 k hj lv hl rfl e2 (hbb ▸ e))
      exact Array.getElem?_setIfInBounds_ne hbb
  · intro j j' oj oj' b2 k2 k2' hj lj hj' lj' e2 e2'
    have hh : ∀ {x : Nat} {ox : Ob}, look x (upd i (.mp es' c') H.h) = some ox → ox.live = true → ∃ ox', look x H.h = some ox' ∧ ox'.live = true := by
      intro x ox hx' lx
      by_cases hxi : x = i
      · subst hxi; exact ⟨_, hl, rfl⟩
      · rw [look_upd_ne hxi] at hx'; exact ⟨ox, hx', lx⟩
    obtain ⟨p, hp, lp⟩ := hh hj lj
    obtain ⟨q, hq, lq⟩ := hh hj' lj'
    exact R.inj j j' p q b2 k2 k2' hp lp hq lq e2 e2'
  · have : b ≠ j := fun h => hB (h ▸ hj)
    simp [Array.getElem?_setIfInBounds_ne this]
theorem run_getObj {b : Nat} {es : List MapEntry} {c : Nat} (h : w.heap[b]? = some (.map ⟨es⟩ c)) : (Go.getObj b).run P w = .ok (.map ⟨es⟩ c) w := by
  simp [Go.getObj, Sem.run, h]
theorem run_setObj {b : Nat} {es : List MapEntry} {c : Nat} {o : Obj} (h : w.heap[b]? = some (.map ⟨es⟩ c)) : (Go.setObj b o).run P w = .ok () { w with heap := w.heap.setIfInBounds b o } := by
  simp [Go.setObj, Sem.run, h]
theorem mup_sound [Ltr] {t : TypeId} {m m' k v : Value} {H1 : RW} (R : Rep X base E H w) (hm : Rel E m m') (e : mup P base H t m k v = some H1) :
    ∃ w', (Instr.mapUpdate t m' k v).run P w = .ok () w' ∧ Rep X base E H1 w' ∧ Kp X w w' := by
  unfold mup at e
  split at e
  · rename_i kt el i hu
    split at e
    · rename_i es c hl
      obtain ⟨hc, e⟩ := cond_some' e
      simp only [Bool.and_eq_true] at hc
      have hbi := Nat.le_of_ble_eq_true hc.1.1
      cases hm with
      | same hf => cases hf
      | @map _ b kk hE =>
        split at e
        · rename_i j x hck hfk
          split at e
          · rename_i k' hkk
            obtain rfl := Option.some.inj e
            obtain ⟨hx, R1, b1⟩ := R.setMap (es' := ((⟨es⟩ : Array MapEntry).modify j fun e => { e with key := k', val := v }).toList) (c' := c) hbi hl hE
            refine ⟨_, ?_, R1, b1⟩
            show ((Go.underlying t) >>= _).run P w = _
            rw [Sem.run_bind, svp_run w hu, Result.andThen_ok]
            dsimp only
            rw [Sem.run_bind, run_getObj hx, Result.andThen_ok]
            dsimp only
            rw [Sem.run_bind, svp_run w hck, Result.andThen_ok, Sem.run_bind, svp_run w hfk, Result.andThen_ok]
            dsimp only
            rw [Sem.run_bind, svp_run w hkk, Result.andThen_ok, run_setObj hx]
          · cases e
        · rename_i hck hfk
          obtain rfl := Option.some.inj e
          obtain ⟨hx, R1, b1⟩ := R.setMap (es' := es ++ [{ key := k, val := v, born := c }]) (c' := c + 1) hbi hl hE
          refine ⟨_, ?_, R1, b1⟩
          show ((Go.underlying t) >>= _).run P w = _
          rw [Sem.run_bind, svp_run w hu, Result.andThen_ok]
          dsimp only
          rw [Sem.run_bind, run_getObj hx, Result.andThen_ok]
          dsimp only
          rw [Sem.run_bind, svp_run w hck, Result.andThen_ok, Sem.run_bind, svp_run w hfk, Result.andThen_ok]
          dsimp only
          rw [run_setObj hx]
          simp
        · cases e
    · cases e
  · cases e
theorem mlk_sound [Ltr] {t : TypeId} {m m' k v : Value} {ok : Bool} (R : Rep X base E H w) (hm : Rel E m m') (e : mlk P H t m k ok = some v) : (Instr.lookup t m' k ok).run P w = .ok v w ∧ Rel E v v := by
  unfold mlk at e
  split at e
  · rename_i kt el i hu
    split at e
    · rename_i es c hl
      cases hm with
      | same hf => cases hf
      | @map _ b kk hE =>
        obtain ⟨b', k', e', ho⟩ := R.ok i _ hl
        rw [hE] at e'; obtain ⟨rfl, rfl⟩ := Prod.mk.inj (Option.some.inj e')
        have hx : w.heap[b]? = some (.map ⟨es⟩ c) := ho
        have start : ∀ {r : Option (Nat × Value)}, svp P (Instr.checkKey (⟨es⟩ : Array MapEntry).isEmpty 10000 kt k) = some () → svp P (Instr.findKey kt k es) = some r →
            (Instr.lookup t (.map (some b)) k ok).run P w = ((match r with | some (_, v) => Pure.pure (v, true) | none => (do Pure.pure (← Go.zeroValue el, false)) : Sem (Value × Bool)) >>= fun x => Pure.pure (if ok = true then Value.tuple #[x.1, .bool x.2] else x.1)).run P w := by
          intro r h1 h2
          show ((Go.underlying t) >>= _).run P w = _
          rw [Sem.run_bind, svp_run w hu, Result.andThen_ok]
          dsimp only
          rw [Sem.run_bind, run_getObj hx, Result.andThen_ok]
          dsimp only
          rw [pure_bind, Sem.run_bind, svp_run w h1, Result.andThen_ok, Sem.run_bind, svp_run w h2, Result.andThen_ok]
          cases r with
          | none =>
            dsimp only
            rw [bind_assoc]
          | some p => rfl
        split at e
        · rename_i j x hck hfk
          obtain ⟨hf, e⟩ := cond_some' e
          obtain rfl := Option.some.inj e
          refine ⟨?_, ?_⟩
          · rw [start hck hfk]
            cases ok <;> rfl
          · cases ok with
            | true => exact .tuple (.cons (.same hf) (.cons (.same rfl) .nil))
            | false => exact .same hf
        · rename_i hck hfk
          split at e
          · rename_i z hz
            obtain ⟨hf, e⟩ := cond_some' e
            obtain rfl := Option.some.inj e
            refine ⟨?_, ?_⟩
            · rw [start hck hfk]
              dsimp only
              rw [Sem.run_bind, Sem.run_bind, svp_run w hz]
              cases ok <;> rfl
            · cases ok with
              | true => exact .tuple (.cons (.same hf) (.cons (.same rfl) .nil))
              | false => exact .same hf
          · cases e
        · cases e
    · cases e
  · cases e
end
end Go.Proofs.YtcplkbflpopoaaaGreatDoor
