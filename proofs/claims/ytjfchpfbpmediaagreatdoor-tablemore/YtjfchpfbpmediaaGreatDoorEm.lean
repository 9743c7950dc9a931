/-
  A run by reckoning: a map's entry taken and put, a key struck out, as entries.
-/
import Derived.Test.YtjfchpfbpmediaaGreatDoorEvY
namespace Go.Proofs.YtjfchpfbpmediaaGreatDoor
open Go Go.RowKit
section
variable {P : Program} {X : Kep} {base : Nat} {E : Ren} {H : RW} {w : World}
theorem RelM.keys [Ltr] {k : Value} : ∀ {l l' : List MapEntry}, RelM E l l' → ∀ j : Nat, RelM E (l.modify j fun e => { e with key := k }) (l'.modify j fun e => { e with key := k })
  | _, _, .nil, j => by cases j <;> exact .nil
  | _, _, .cons h t, 0 => .cons h t
  | _, _, .cons h t, j + 1 => .cons h (t.keys j)
theorem RelM.vals [Ltr] {v v' : Value} (hv : Rel E v v') : ∀ {l l' : List MapEntry}, RelM E l l' → ∀ j : Nat, RelM E (l.modify j fun e => { e with val := v }) (l'.modify j fun e => { e with val := v' })
  | _, _, .nil, j => by cases j <;> exact .nil
  | _, _, .cons h t, 0 => .cons hv t
  | _, _, .cons h t, j + 1 => .cons h (t.vals hv j)
theorem RelM.erase [Ltr] : ∀ {l l' : List MapEntry}, RelM E l l' → ∀ j : Nat, RelM E (l.eraseIdx j) (l'.eraseIdx j)
  | _, _, .nil, j => by simpa using RelM.nil
  | _, _, .cons h t, 0 => t
  | _, _, .cons h t, j + 1 => .cons h (t.erase j)
theorem RelM.born [Ltr] : ∀ {l l' : List MapEntry}, RelM E l l' → ∀ j : Nat, l'[j]?.map (·.born) = l[j]?.map (·.born)
  | _, _, .nil, _ => rfl
  | _, _, .cons _ _, 0 => rfl
  | _, _, .cons _ t, j + 1 => by simpa using t.born j
def fbI (n : Int) : List MapEntry → Nat → Option Nat
  | [], _ => none
  | e :: l, i => bif ibeq e.born n then some i else fbI n l (i + 1)
theorem fbI_shift {n : Int} : ∀ {l : List MapEntry} {i : Nat}, fbI n l i = (l.findIdx? fun e => (e.born : Int) == n).map (· + i)
  | [], i => rfl
  | e :: l, i => by
    unfold fbI
    rw [List.findIdx?_cons, ibeq_eq]
    cases h : ibeq e.born n with
    | true => simp
    | false =>
      rw [cond_false, fbI_shift]
      simp only [Bool.false_eq_true, if_false, Option.map_map]
      congr 1
      funext x
      show x + (i + 1) = x + 1 + i
      omega
theorem fbI_rel [Ltr] {n : Int} : ∀ {l l' : List MapEntry} {i : Nat}, RelM E l l' → fbI n l' i = fbI n l i
  | _, _, _, .nil => rfl
  | _, _, _, .cons _ t => by unfold fbI; dsimp only; rw [fbI_rel t]
/-- an entry that is there, taken for writing -/
def medE (P : Program) (base : Nat) : ME :=
  ⟨fun op ρ H => match op with
    | .mapEntry t m k => match P.underlying t, ρ m with
      | some (.map kt _), .map (some i) => match look i H.h with
        | some (.mp es c) => bif Nat.ble base i && kfl (ρ k) && ck P kt (ρ k) then match fk P kt (ρ k) es with
            | some (some (j, v)) => bif same1 ((es[j]?.map (·.key)).getD (ρ k)) (ρ k) then some (.value (.tuple ⟨[v, .int .i64 ((es[j]?.map (·.born)).getD 0)]⟩), { H with h := upd i (.mp (es.modify j fun e => { e with key := ρ k }) c) H.h }) else none
            | _ => none
          else none
        | _ => none
      | _, _ => none
    | _ => none⟩
theorem med_ok [Ltr] : MEOk P X base (medE P base) where
  ok := by
    intro o ρ ρ' E H H1 nx w hρ R e
    simp only [medE] at e
    split at e
    · rename_i t m k ho
      split at e
      · rename_i kt el i hu hm
        split at e
        · rename_i es c hl
          obtain ⟨hc, e⟩ := cond_some e
          simp only [Bool.and_eq_true] at hc
          have hbi := Nat.le_of_ble_eq_true hc.1.1
          have hck := ck_run hc.2 false w
          have rm := hρ m (by rw [ho]; simp [Op.operands])
          have rk := hρ k (by rw [ho]; simp [Op.operands])
          have ek := rk.kfl_eq hc.1.2
          rw [hm] at rm
          generalize hy : ρ' m = y at rm
          cases rm with
          | same hf => cases hf
          | @map _ b kk hE =>
          obtain ⟨b', k', e', xs, hx, hr⟩ := R.ok i _ hl
          rw [hE] at e'; obtain ⟨rfl, rfl⟩ := Prod.mk.inj (Option.some.inj e')
          split at e
          · rename_i j v hfk
            obtain ⟨hs, e⟩ := cond_some e
            obtain ⟨rfl, rfl⟩ := Prod.mk.inj (Option.some.inj e)
            obtain ⟨r', h1, h2⟩ := fk_run hr hfk w
            cases r' with
            | none => cases h2
            | some p =>
              obtain ⟨j', u⟩ := p
              obtain ⟨rfl, hvu⟩ := h2
              obtain ⟨R1, b1⟩ := R.setMap (c' := c) hbi hl hE (hr.keys (k := ρ k) j)
              refine ⟨E, .value (.tuple ⟨[u, .int .i64 ((es[j]?.map (·.born)).getD 0)]⟩), _, ?_, Ext.refl E, R1, b1, .tuple (.cons hvu (.cons (.same rfl) .nil))⟩
              simp only [execOp, ho, hy, ek]
              refine run_value ?_
              show ((Go.underlying t) >>= _).run P w = _
              rw [Sem.run_bind, run_underlying hu, Result.andThen_ok]
              dsimp only
              rw [Sem.run_bind, run_getObj hx, Result.andThen_ok]
              dsimp only
              rw [Sem.run_bind, hck, Result.andThen_ok, Sem.run_bind, h1, Result.andThen_ok]
              dsimp only
              have hkk := same1_run (P := P) hs w
              have e1 : ((⟨xs⟩ : Array MapEntry)[j]?.map (·.key)) = es[j]?.map (·.key) := by simpa using hr.key j
              have e2 : ((⟨xs⟩ : Array MapEntry)[j]?.map fun x => (x.born : Int)) = es[j]?.map fun x => (x.born : Int) := by
                have h3 := congrArg (Option.map fun n : Nat => (n : Int)) (hr.born j)
                rw [Option.map_map, Option.map_map] at h3
                simpa [Function.comp_def] using h3
              rw [Sem.run_bind, e1, hkk, Result.andThen_ok, Sem.run_bind, run_setObj hx, Result.andThen_ok, e2]
              show Result.ok _ _ = _
              congr 3
              congr 1
              apply Array.ext'
              simp
          · cases e
        · cases e
      · cases e
    · cases e
  q := by
    intro o ρ H H1 nx e
    simp only [medE] at e
    split at e
    · exact ⟨fun c h => (by cases h), fun h => (by cases h)⟩
    · cases e
/-- the entry put -/
def estE (base : Nat) : ME :=
  ⟨fun op ρ H => match op with
    | .entryStore _ m s x => match ρ m, ρ s with
      | .map (some i), .int _ n => match look i H.h with
        | some (.mp es c) => bif Nat.ble base i then match fbI n es 0 with
            | some j => some (.skip, { H with h := upd i (.mp (es.modify j fun e => { e with val := ρ x }) c) H.h })
            | none => none
          else none
        | _ => none
      | _, _ => none
    | _ => none⟩
theorem est_ok [Ltr] : MEOk P X base (estE base) where
  ok := by
    intro o ρ ρ' E H H1 nx w hρ R e
    simp only [estE] at e
    split at e
    · rename_i t m s x ho
      split at e
      · rename_i i kd n hm hs
        split at e
        · rename_i es c hl
          obtain ⟨hc, e⟩ := cond_some e
          split at e
          · rename_i j hj
            obtain ⟨rfl, rfl⟩ := Prod.mk.inj (Option.some.inj e)
            have rm := hρ m (by rw [ho]; simp [Op.operands])
            have rs := hρ s (by rw [ho]; simp [Op.operands])
            have rx := hρ x (by rw [ho]; simp [Op.operands])
            rw [hs] at rs
            have es1 := rs.int
            rw [hm] at rm
            generalize hy : ρ' m = y at rm
            cases rm with
            | same hf => cases hf
            | @map _ b kk hE =>
            obtain ⟨b', k', e', xs, hx, hr⟩ := R.ok i _ hl
            rw [hE] at e'; obtain ⟨rfl, rfl⟩ := Prod.mk.inj (Option.some.inj e')
            obtain ⟨R1, b1⟩ := R.setMap (c' := c) (Nat.le_of_ble_eq_true hc) hl hE (hr.vals rx j)
            refine ⟨E, .skip, _, ?_, Ext.refl E, R1, b1, trivial⟩
            simp only [execOp, ho, hy, es1]
            have hfi : (⟨xs⟩ : Array MapEntry).findIdx? (fun e => (e.born : Int) == n) = some j := by
              have h1 := fbI_rel (n := n) (i := 0) hr
              rw [hj, fbI_shift] at h1
              simpa using h1
            show (Instr.entryStore t _ _ _ >>= _).run P w = _
            have : (Instr.entryStore t (.map (some b)) (.int kd n) (ρ' x)).run P w = .ok () { w with heap := w.heap.setIfInBounds b (.map ⟨xs.modify j fun e => { e with val := ρ' x }⟩ c) } := by
              show ((Go.getObj b) >>= _).run P w = _
              rw [Sem.run_bind, run_getObj hx, Result.andThen_ok]
              show ((Go.asInt (.int kd n)) >>= _).run P w = _
              rw [Sem.run_bind]
              show (Result.ok n w).andThen _ = _
              rw [Result.andThen_ok, hfi]
              dsimp only
              rw [run_setObj hx]
              congr 3
              congr 1
              apply Array.ext'
              simp
            rw [Sem.run_bind, this]
            rfl
          · cases e
        · cases e
      · cases e
    · cases e
  q := by
    intro o ρ H H1 nx e
    simp only [estE] at e
    split at e
    · exact ⟨fun c h => (by cases h), fun h => (by cases h)⟩
    · cases e
end
end Go.Proofs.YtjfchpfbpmediaaGreatDoor
