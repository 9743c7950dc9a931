/-
  A run by reckoning: all the operations.
-/
import Derived.Test.YtkhmbphcjacgnaaGreatDoorEvL
namespace Go.Proofs.YtkhmbphcjacgnaaGreatDoor
open Go Go.RowKit
def clr (P : Program) (base : Nat) (H : RW) (t : TypeId) (x : Value) : Option RW :=
  match svp P (Go.underlying t), x with
  | some (.slice el), .slice (some ⟨i, o, none⟩) (n + 1) _ => match svp P (Go.zeroValue el) with
    | some z => bif (Builtin.zeroCells z.cells (n + 1)).toList.all flat then (sv P base (Go.storeCells ⟨i, o, none⟩ (Builtin.zeroCells z.cells (n + 1)).toList) H).map (·.2) else none
    | none => none
  | some _, .slice _ 0 _ => some H
  | _, _ => none
def evAll (P : Program) (base : Nat) (ρ : Operand → Value) (o : Oper) (H : RW) : Option (Next × RW) :=
  match evOp P base ρ o H with
  | some r => some r
  | none => match o.op with
    | .makeSlice t x y => bif flat (ρ x) && flat (ρ y) then match msl P H t (ρ x) (ρ y) with
        | some (v, H1) => some (.value v, H1)
        | none => none
      else none
    | .convert s d x => match b2s P H s d (ρ x) with
      | some v => some (.value v, H)
      | none => bif flat (ρ x) then match s2b P H s d (ρ x) with
          | some (v, H1) => some (.value v, H1)
          | none => none
        else none
    | .slice t x lo hi mx => bif (lo.toList ++ hi.toList ++ mx.toList).all (fun y => flat (ρ y)) then match slu P H t (ρ x) (lo.map ρ) (hi.map ρ) (mx.map ρ) with
        | some v => some (.value v, H)
        | none => none
      else none
    | .makeMap _ none => some (.value (.map (some H.n)), H.push (.mp [] 0))
    | .mapUpdate t m k v => match mup P base H t (ρ m) (ρ k) (ρ v) with
      | some H1 => some (.skip, H1)
      | none => none
    | .lookup t m k ok => bif kfl (ρ k) then match mlk P H t (ρ m) (ρ k) ok with
        | some v => some (.value v, H)
        | none => none
      else none
    | .range t x => match P.underlying t, ρ x with
      | some .string, .string s => some (.value (.pointer (some ⟨H.n, 0, none⟩)), H.push (.it s 0))
      | _, _ => none
    | .next x true => match ρ x with
      | .pointer (some ⟨i, 0, none⟩) => match look i H.h with
        | some (.it s p) => bif Nat.ble base i then bif Nat.blt p s.size then match Utf8.decode s p with
            | (c, n) => some (.value (.tuple ⟨[.bool true, .int .i64 p, .int .i32 c]⟩), { H with h := upd i (.it s (p + n)) H.h })
            else some (.value (.tuple ⟨[.bool false]⟩), H)
          else none
        | _ => none
      | _ => none
    | .call c => match c.callee, c.args.toList, c.argTypes.toList with
      | .builtin .append, [x, y], [t, t2] => bif Nat.beq t t2 then match apd P base H t (ρ x) (ρ y) with
          | some (v, H1) => some (.value v, H1)
          | none => none
        else none
      | .builtin .clear, [x], [t] => match clr P base H t (ρ x) with
        | some H1 => some (.value (.tuple #[]), H1)
        | none => none
      | _, _, _ => none
    | _ => none
section
variable {P : Program} {X : Kep} {base : Nat} {E : Ren} {H : RW} {w : World}
theorem clr_sound [Ltr] {t ty : TypeId} {x x' : Value} {H1 : RW} (R : Rep X base E H w) (hx : Rel E x x') (e : clr P base H t x = some H1) :
    ∃ F w', (Builtin.clear_ #[t] ty #[x']).run P w = .ok (.tuple #[]) w' ∧ Ext E F ∧ Rep X base F H1 w' ∧ Kp X w w' := by
  unfold clr at e
  split at e
  · rename_i el i o n c hu
    cases hz : svp P (Go.zeroValue el) with
    | none => rw [hz] at e; cases e
    | some z =>
      rw [hz] at e
      dsimp only at e
      cases hf : (Builtin.zeroCells z.cells (n + 1)).toList.all flat with
      | false => rw [hf] at e; cases e
      | true =>
        rw [hf] at e
        dsimp only [cond_true] at e
        cases hx with
        | same hf => cases hf
        | @sl _ _ b k _ _ hE =>
          cases hs : sv P base (Go.storeCells ⟨i, o, none⟩ (Builtin.zeroCells z.cells (n + 1)).toList) H with
          | none => rw [hs] at e; cases e
          | some p =>
            obtain ⟨u, H2⟩ := p
            rw [hs] at e
            obtain rfl := Option.some.inj e
            have ha : RelAd E ⟨i, o, none⟩ ⟨b, o, none⟩ := ⟨_, _, _, _, rfl, rfl, hE⟩
            obtain ⟨F, u', w', hr, x1, R1, b1, _⟩ := Snd.storeCells (P := P) (X := X) (base := base) 0 ha (RelL.flats hf) H H2 u w R hs
            refine ⟨F, w', ?_, x1, R1, b1⟩
            show ((Go.underlying t) >>= _).run P w = _
            rw [Sem.run_bind, svp_run w hu, Result.andThen_ok]
            show ((Go.zeroValue el) >>= _).run P w = _
            rw [Sem.run_bind, svp_run w hz, Result.andThen_ok, Sem.run_bind, hr]
            rfl
  · rename_i d a c hu
    obtain rfl := Option.some.inj e
    refine ⟨E, w, ?_, Ext.refl E, R, Kp.refl _ _⟩
    generalize hd : d = d' at hu
    cases hx with
    | same hf =>
      show ((Go.underlying t) >>= _).run P w = _
      rw [Sem.run_bind, svp_run w hu, Result.andThen_ok]
      cases a with
      | none => rfl
      | some a => cases hf
    | sl hE =>
      show ((Go.underlying t) >>= _).run P w = _
      rw [Sem.run_bind, svp_run w hu, Result.andThen_ok]
      rfl
  · cases e
theorem mup_flat [Ltr] {t : TypeId} {m k v : Value} {H1 : RW} (e : mup P base H t m k v = some H1) : kfl k = true := by
  unfold mup at e
  split at e
  · split at e
    · obtain ⟨hc, _⟩ := cond_some' e
      simp only [Bool.and_eq_true] at hc
      exact hc.1.2
    · cases e
  · cases e
theorem evAll_sound [Ltr] {ρ ρ' : Operand → Value} {o : Oper} {H1 : RW} {nx : Next} (hρ : ∀ x ∈ o.op.operands, Rel E (ρ x) (ρ' x)) (hR : Rep X base E H w)
    (e : evAll P base ρ o H = some (nx, H1)) : Does P X base E w nx H1 (execOp ρ' o) := by
  unfold evAll at e
  cases h0 : evOp P base ρ o H with
  | some r =>
    rw [h0] at e
    obtain rfl := Option.some.inj e
    exact evOp_sound hρ hR h0
  | none =>
    rw [h0] at e
    have hm := fun l e x h => mem_ops (E := E) (o := o) hρ (l := l) e (x := x) h
    dsimp only at e
    cases ho : o.op with
    | makeSlice t x y =>
      simp only [ho] at e
      cases hf : (flat (ρ x) && flat (ρ y)) with
      | false => rw [hf] at e; cases e
      | true =>
        rw [hf] at e
        simp only [Bool.and_eq_true] at hf
        dsimp only [cond_true] at e
        have e1 := (hm #[x, y] (by rw [ho]; rfl) x (by simp)).flat_eq hf.1
        have e2 := (hm #[x, y] (by rw [ho]; rfl) y (by simp)).flat_eq hf.2
        cases hs : msl P H t (ρ x) (ρ y) with
        | none => rw [hs] at e; cases e
        | some p =>
          obtain ⟨v, H2⟩ := p
          rw [hs] at e
          obtain ⟨rfl, rfl⟩ := Prod.mk.inj (Option.some.inj e)
          obtain ⟨F, v', w', hr, x1, R1, b1, rv⟩ := msl_sound hR hs
          refine ⟨F, .value v', w', ?_, x1, R1, b1, rv⟩
          simp only [execOp, ho, e1, e2]
          exact run_value hr
    | convert s d x =>
      simp only [ho] at e
      cases hs : b2s P H s d (ρ x) with
      | none =>
        rw [hs] at e
        dsimp only at e
        cases hf : flat (ρ x) with
        | false => rw [hf] at e; cases e
        | true =>
          rw [hf] at e
          dsimp only [cond_true] at e
          have e1 := (hm #[x] (by rw [ho]; rfl) x (by simp)).flat_eq hf
          cases hs2 : s2b P H s d (ρ x) with
          | none => rw [hs2] at e; cases e
          | some p =>
            obtain ⟨v, H2⟩ := p
            rw [hs2] at e
            obtain ⟨rfl, rfl⟩ := Prod.mk.inj (Option.some.inj e)
            obtain ⟨F, v', w', hr, x1, R1, b1, rv⟩ := s2b_sound hR hs2
            refine ⟨F, .value v', w', ?_, x1, R1, b1, rv⟩
            simp only [execOp, ho, e1]
            exact run_value hr
      | some v =>
        rw [hs] at e
        obtain ⟨rfl, rfl⟩ := Prod.mk.inj (Option.some.inj e)
        obtain ⟨hr, hf⟩ := b2s_sound hR (hm #[x] (by rw [ho]; rfl) x (by simp)) hs
        refine Does.pure hR (.same hf) ?_
        simp only [execOp, ho]
        exact run_value hr
    | slice t x lo hi mx =>
      simp only [ho] at e
      cases hc : (lo.toList ++ hi.toList ++ mx.toList).all (fun y => flat (ρ y)) with
      | false => rw [hc] at e; cases e
      | true =>
        rw [hc] at e
        dsimp only [cond_true] at e
        cases hs : slu P H t (ρ x) (lo.map ρ) (hi.map ρ) (mx.map ρ) with
        | none => rw [hs] at e; cases e
        | some v =>
          rw [hs] at e
          obtain ⟨rfl, rfl⟩ := Prod.mk.inj (Option.some.inj e)
          have hl : ∀ y ∈ lo.toList ++ hi.toList ++ mx.toList, ρ' y = ρ y := fun y hy => by
            refine (hm (#[x] ++ lo.toArray ++ hi.toArray ++ mx.toArray) (by rw [ho]; rfl) y ?_).flat_eq (List.all_eq_true.1 hc y hy)
            simp at hy ⊢
            rcases hy with h | h | h
            · exact .inr (.inl h)
            · exact .inr (.inr (.inl h))
            · exact .inr (.inr (.inr h))
          have e1 : lo.map ρ' = lo.map ρ := by cases lo with
            | none => rfl
            | some y => simp [hl y (by simp)]
          have e2 : hi.map ρ' = hi.map ρ := by cases hi with
            | none => rfl
            | some y => simp [hl y (by simp)]
          have e3 : mx.map ρ' = mx.map ρ := by cases mx with
            | none => rfl
            | some y => simp [hl y (by simp)]
          obtain ⟨v', hr, rv⟩ := slu_sound hR (hm (#[x] ++ lo.toArray ++ hi.toArray ++ mx.toArray) (by rw [ho]; rfl) x (by simp)) hs
          refine Does.pure hR rv ?_
          simp only [execOp, ho, e1, e2, e3]
          exact run_value hr
    | makeMap t r =>
      simp only [ho] at e
      cases r with
      | some y => cases e
      | none =>
        obtain ⟨rfl, rfl⟩ := Prod.mk.inj (Option.some.inj e)
        obtain ⟨p1, p2, p3⟩ := hR.push (o := .mp [] 0) (x := .map #[] 0) (k := 0) (fun F x => ⟨[], rfl, .nil⟩)
        refine ⟨_, .value (.map (some w.heap.size)), _, ?_, p2, p1, p3, .map Ren.at⟩
        simp only [execOp, ho]
        exact run_value rfl
    | mapUpdate t m k v =>
      simp only [ho] at e
      cases hs : mup P base H t (ρ m) (ρ k) (ρ v) with
      | none => rw [hs] at e; cases e
      | some H2 =>
        rw [hs] at e
        obtain ⟨rfl, rfl⟩ := Prod.mk.inj (Option.some.inj e)
        obtain ⟨w', hr, R1, b1⟩ := mup_sound hR (hm #[m, k, v] (by rw [ho]; rfl) m (by simp)) (hm #[m, k, v] (by rw [ho]; rfl) v (by simp)) hs
        have e1 := (hm #[m, k, v] (by rw [ho]; rfl) k (by simp)).kfl_eq (mup_flat hs)
        refine ⟨E, .skip, w', ?_, Ext.refl E, R1, b1, trivial⟩
        simp only [execOp, ho, e1]
        show ((Instr.mapUpdate t (ρ' m) (ρ k) (ρ' v)) >>= _).run P w = _
        rw [Sem.run_bind, hr]
        rfl
    | lookup t m k ok =>
      simp only [ho] at e
      obtain ⟨hf, e⟩ := cond_some' e
      have e1 := (hm #[m, k] (by rw [ho]; rfl) k (by simp)).kfl_eq hf
      cases hs : mlk P H t (ρ m) (ρ k) ok with
      | none => rw [hs] at e; cases e
      | some v =>
        rw [hs] at e
        obtain ⟨rfl, rfl⟩ := Prod.mk.inj (Option.some.inj e)
        obtain ⟨v', hr, rv⟩ := mlk_sound hR (hm #[m, k] (by rw [ho]; rfl) m (by simp)) hs
        refine Does.pure hR rv ?_
        simp only [execOp, ho, e1]
        exact run_value hr
    | range t x =>
      simp only [ho] at e
      split at e
      · rename_i s hu hx
        obtain ⟨rfl, rfl⟩ := Prod.mk.inj (Option.some.inj e)
        have e1 := (hm #[x] (by rw [ho]; rfl) x (by simp)).flat_eq (by rw [hx]; rfl)
        obtain ⟨p1, p2, p3⟩ := hR.push (o := .it s 0) (x := .stringIter s 0) (k := 0) (fun F x => rfl)
        refine ⟨_, .value (.pointer (some ⟨w.heap.size, 0, none⟩)), _, ?_, p2, p1, p3, .ptr Ren.at⟩
        simp only [execOp, ho, e1, hx]
        refine run_value ?_
        show ((Go.underlying t) >>= _).run P w = _
        rw [Sem.run_bind, run_underlying hu]
        rfl
      · cases e
    | next x is =>
      cases is with
      | false => simp only [ho] at e; cases e
      | true =>
      simp only [ho] at e
      split at e
      · rename_i i hx
        split at e
        · rename_i s p hl
          obtain ⟨hbi, e⟩ := cond_some' e
          have rx := hm #[x] (by rw [ho]; rfl) x (by simp)
          rw [hx] at rx
          generalize hy : ρ' x = y at rx
          cases rx with
          | same hf => cases hf
          | @ptr _ _ b k hE =>
          obtain ⟨b', k', e', ho'⟩ := hR.ok i _ hl
          rw [hE] at e'; obtain ⟨rfl, rfl⟩ := Prod.mk.inj (Option.some.inj e')
          have hxx : w.heap[b]? = some (.stringIter s p) := ho'
          have hg : (Go.getObj b).run P w = .ok (.stringIter s p) w := by simp [Go.getObj, Sem.run, hxx]
          cases hlt : Nat.blt p s.size with
          | true =>
            rw [hlt] at e
            obtain ⟨rfl, rfl⟩ := Prod.mk.inj (Option.some.inj e)
            obtain ⟨R1, b1⟩ := hR.setOb (o' := .it s (p + (Utf8.decode s p).2)) (y := .stringIter s (p + (Utf8.decode s p).2)) (Nat.le_of_ble_eq_true hbi) hl rfl hE rfl
            refine ⟨E, .value (.tuple #[.bool true, .int .i64 p, .int .i32 (Utf8.decode s p).1]), _, ?_, Ext.refl E, R1, b1, .tuple (.cons (.same rfl) (.cons (.same rfl) (.cons (.same rfl) .nil)))⟩
            simp only [execOp, ho, hy]
            refine run_value ?_
            have hlt' : p < s.size := by simpa [Nat.blt_eq] using hlt
            have hso : (Go.setObj b (.stringIter s (p + (Utf8.decode s p).2))).run P w = .ok () { w with heap := w.heap.setIfInBounds b (.stringIter s (p + (Utf8.decode s p).2)) } := by simp [Go.setObj, Sem.run, hxx]
            simp only [Instr.next, Sem.run_bind, hg, Result.andThen_ok, hlt', if_true, hso, Sem.run_pure]
            rfl
          | false =>
            rw [hlt] at e
            obtain ⟨rfl, rfl⟩ := Prod.mk.inj (Option.some.inj e)
            refine ⟨E, .value (.tuple #[.bool false]), w, ?_, Ext.refl E, hR, Kp.refl _ _, .tuple (.cons (.same rfl) .nil)⟩
            simp only [execOp, ho, hy]
            refine run_value ?_
            have hlt' : ¬ p < s.size := fun h => by rw [show Nat.blt p s.size = true by simpa [Nat.blt_eq] using h] at hlt; cases hlt
            simp only [Instr.next, Sem.run_bind, hg, Result.andThen_ok, hlt', if_false, Sem.run_pure]
        · cases e
      · cases e
    | call c =>
      simp only [ho] at e
      split at e
      · rename_i x y t t2 hc ha ht
        have ha' : c.args = #[x, y] := by apply Array.ext'; simpa using ha
        have ht' : c.argTypes = #[t, t2] := by apply Array.ext'; simpa using ht
        have hop : o.op.operands = c.args := by rw [ho]; simp [Op.operands, Call.operands, hc]
        cases hb : Nat.beq t t2 with
        | false => rw [hb] at e; cases e
        | true =>
          rw [hb] at e
          obtain rfl := Nat.eq_of_beq_eq_true hb
          dsimp only [cond_true] at e
          cases hs : apd P base H t (ρ x) (ρ y) with
          | none => rw [hs] at e; cases e
          | some p =>
            obtain ⟨v, H2⟩ := p
            rw [hs] at e
            obtain ⟨rfl, rfl⟩ := Prod.mk.inj (Option.some.inj e)
            obtain ⟨F, v', w', hr, x1, R1, b1, rv⟩ := apd_sound (ty := o.type) hR (hm _ hop x (by rw [ha']; simp)) (hm _ hop y (by rw [ha']; simp)) hs
            refine ⟨F, .value v', w', ?_, x1, R1, b1, rv⟩
            simp only [execOp, ho, resolve, hc, ha', ht', invoke, pure_bind, Go.builtin]
            exact run_value (by simpa using hr)
      · rename_i x t hc ha ht
        have ha' : c.args = #[x] := by apply Array.ext'; simpa using ha
        have ht' : c.argTypes = #[t] := by apply Array.ext'; simpa using ht
        have hop : o.op.operands = c.args := by rw [ho]; simp [Op.operands, Call.operands, hc]
        cases hs : clr P base H t (ρ x) with
        | none => rw [hs] at e; cases e
        | some H2 =>
          rw [hs] at e
          obtain ⟨rfl, rfl⟩ := Prod.mk.inj (Option.some.inj e)
          obtain ⟨F, w', hr, x1, R1, b1⟩ := clr_sound (ty := o.type) hR (hm _ hop x (by rw [ha']; simp)) hs
          refine ⟨F, .value (.tuple #[]), w', ?_, x1, R1, b1, .same rfl⟩
          simp only [execOp, ho, resolve, hc, ha', ht', invoke, pure_bind, Go.builtin]
          exact run_value (by simpa using hr)
      · cases e
    | _ => simp only [ho] at e; cases e
end
end Go.Proofs.YtkhmbphcjacgnaaGreatDoor
