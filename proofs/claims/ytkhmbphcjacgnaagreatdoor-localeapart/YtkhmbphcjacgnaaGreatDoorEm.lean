/-
  A run by reckoning: a map's entry taken and put, a key struck out, as entries.
-/
import Derived.Test.YtkhmbphcjacgnaaGreatDoorEvZ
namespace Go.Proofs.YtkhmbphcjacgnaaGreatDoor
open Go Go.RowKit
section
variable {P : Program} {X : Kep} {base : Nat} {E : Ren} {H : RW} {w : World}
theorem RelM.keys [Ltr] {k : Value} : ∀ {l l' : List MapEntry}, RelM E l l' → ∀ j : Nat, RelM E (l.modify j fun e => { e with key := k }) (l'.modify j fun e => { e with key := k })
  | _, _, .nil, j => by cases j <;> exact .nil
  | _, _, .cons h t, 0 => .cons h t
  | _, _, .cons h t, j + 1 => .cons h (t.keys j)
theorem RelM.erase [Ltr] : ∀ {l l' : List MapEntry}, RelM E l l' → ∀ j : Nat, RelM E (l.eraseIdx j) (l'.eraseIdx j)
  | _, _, .nil, j => by simpa using RelM.nil
  | _, _, .cons h t, 0 => t
  | _, _, .cons h t, j + 1 => .cons h (t.erase j)
theorem RelM.born [Ltr] : ∀ {l l' : List MapEntry}, RelM E l l' → ∀ j : Nat, l'[j]?.map (·.born) = l[j]?.map (·.born)
  | _, _, .nil, _ => rfl
  | _, _, .cons _ _, 0 => rfl
  | _, _, .cons _ t, j + 1 => by simpa using t.born j
/-- a key that is there, struck out -/
def delE (P : Program) (base : Nat) : ME :=
  ⟨fun op ρ H => match op with
    | .call c => match c.callee, c.args.toList, c.argTypes.toList with
      | .builtin .delete, [m, k], [t, _] => match P.underlying t, ρ m with
        | some (.map kt _), .map (some i) => match look i H.h with
          | some (.mp es c) => bif Nat.ble base i && kfl (ρ k) && ck P kt (ρ k) then match fk P kt (ρ k) es with
              | some (some (j, _)) => some (.value (.tuple ⟨[]⟩), { H with h := upd i (.mp (es.eraseIdx j) c) H.h })
              | _ => none
            else none
          | _ => none
        | _, _ => none
      | _, _, _ => none
    | _ => none⟩
theorem del_ok [Ltr] : MEOk P X base (delE P base) where
  ok := by
    intro o ρ ρ' E H H1 nx w hρ R e
    simp only [delE] at e
    split at e
    · rename_i c ho
      split at e
      · rename_i m k t t2 hcal hargs hty
        split at e
        · rename_i kt el i hu hm
          split at e
          · rename_i es c' hl
            obtain ⟨hc, e⟩ := cond_some e
            simp only [Bool.and_eq_true] at hc
            have hbi := Nat.le_of_ble_eq_true hc.1.1
            have hops : o.op.operands = #[m, k] := by
              rw [ho]
              simp only [Op.operands, Call.operands, hcal]
              apply Array.ext'
              simp [hargs]
            have rm := hρ m (by rw [hops]; simp)
            have rk := hρ k (by rw [hops]; simp)
            have ek := rk.kfl_eq hc.1.2
            rw [hm] at rm
            generalize hy : ρ' m = y at rm
            cases rm with
            | same hf => cases hf
            | @map _ b kk hE =>
            obtain ⟨b', k', e', xs, hx, hr⟩ := R.ok i _ hl
            rw [hE] at e'; obtain ⟨rfl, rfl⟩ := Prod.mk.inj (Option.some.inj e')
            split at e
            · rename_i j v hfk
              obtain ⟨rfl, rfl⟩ := Prod.mk.inj (Option.some.inj e)
              obtain ⟨r', h1, h2⟩ := fk_run hr hfk w
              cases r' with
              | none => cases h2
              | some p =>
                obtain ⟨j', u⟩ := p
                obtain ⟨rfl, hvu⟩ := h2
                obtain ⟨R1, b1⟩ := R.setMap (c' := c') hbi hl hE (hr.erase j)
                have ha' : c.args = #[m, k] := by apply Array.ext'; simpa using hargs
                have ht' : c.argTypes = #[t, t2] := by apply Array.ext'; simpa using hty
                refine ⟨E, .value (.tuple ⟨[]⟩), _, ?_, Ext.refl E, R1, b1, .same rfl⟩
                have hdel : (Builtin.delete_ #[t, t2] o.type #[.map (some b), ρ k]).run P w = .ok (.tuple #[]) { w with heap := w.heap.setIfInBounds b (.map ⟨xs.eraseIdx j⟩ c') } := by
                  show ((Go.underlying t) >>= _).run P w = _
                  rw [Sem.run_bind, run_underlying hu, Result.andThen_ok]
                  dsimp only
                  show ((Go.getObj b) >>= _).run P w = _
                  rw [Sem.run_bind, run_getObj hx, Result.andThen_ok]
                  show ((Instr.checkKey (⟨xs⟩ : Array MapEntry).isEmpty 10000 kt (ρ k)) >>= _).run P w = _
                  rw [Sem.run_bind, ck_run hc.2 _ w, Result.andThen_ok]
                  show ((Instr.findKey kt (ρ k) xs) >>= _).run P w = _
                  rw [Sem.run_bind, h1, Result.andThen_ok]
                  show ((Go.setObj b _) >>= _).run P w = _
                  rw [Sem.run_bind, run_setObj hx, Result.andThen_ok]
                  have he : (⟨xs⟩ : Array MapEntry).eraseIdxIfInBounds j = ⟨xs.eraseIdx j⟩ := by
                    apply Array.ext'
                    unfold Array.eraseIdxIfInBounds
                    split
                    · simp
                    · rename_i hn
                      rw [List.eraseIdx_of_length_le (by simpa using hn)]
                  rw [he]
                  rfl
                simp only [execOp, ho, resolve, hcal, ha', ht', invoke, pure_bind, Go.builtin]
                exact run_value (by simpa [hy, ek] using hdel)
            · cases e
          · cases e
        · cases e
      · cases e
    · cases e
  q := by
    intro o ρ H H1 nx e
    simp only [delE] at e
    split at e
    · rename_i c
      split at e
      · rename_i m k t t2 hcal hargs hty
        refine ⟨fun c h => (by cases h), fun h => ?_⟩
        simp [quiet, hcal] at h
      · cases e
    · cases e
end
end Go.Proofs.YtkhmbphcjacgnaaGreatDoor
