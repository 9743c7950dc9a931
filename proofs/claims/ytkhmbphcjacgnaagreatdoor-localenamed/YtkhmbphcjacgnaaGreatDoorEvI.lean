/-
  A run by reckoning: a region that draws its order comes to the same, whatever the order.
-/
import Derived.Test.YtkhmbphcjacgnaaGreatDoorEvF
namespace Go.Proofs.YtkhmbphcjacgnaaGreatDoor
open Go Go.RowKit
section
variable {P : Program} {G : Nat} {X : Kep} {base : Nat} {E : Ren}
theorem pt_len (d : Option Tmp) (v : Value) (f : List Value) : (pt d v f).length = f.length := by
  cases d <;> simp [pt]
theorem slot_set {t d : Nat} {v : Value} (h : d ≠ t) : ∀ (f : List Value), slot (f.set d v) t = slot f t := by
  intro f
  induction f generalizing t d with
  | nil => rfl
  | cons a l ih =>
    cases d with
    | zero => cases t with
      | zero => exact absurd rfl h
      | succ t => rfl
    | succ d => cases t with
      | zero => rfl
      | succ t => exact ih (fun e => h (by rw [e]))
theorem slot_pt [Ltr] [Orc] {t : Nat} {d : Option Tmp} {v : Value} (h : d ≠ some t) (f : List Value) : slot (pt d v f) t = slot f t := by
  cases d with
  | none => rfl
  | some d => exact slot_set (fun e => h (by rw [e])) f
theorem clos_bit {T : List Nat} {j : Nat} : ∀ (l : List Nat) (m : Nat), (l.foldl (fun m e => m ||| (1 <<< e ||| T.getD e 0)) m).testBit j = true → m.testBit j = true ∨ ∃ e ∈ l, j = e ∨ (T.getD e 0).testBit j = true
  | [], m, h => .inl h
  | e :: l, m, h => by
    rw [List.foldl_cons] at h
    rcases clos_bit l _ h with h | ⟨e', he', h⟩
    · rw [Nat.testBit_or, Nat.testBit_or] at h
      simp only [Bool.or_eq_true] at h
      rcases h with h | h | h
      · exact .inl h
      · have h' := h
        rw [Nat.testBit_shiftLeft] at h'
        simp only [Bool.and_eq_true, decide_eq_true_eq] at h'
        have h2 : j - e = 0 := by
          rcases Nat.eq_zero_or_pos (j - e) with h0 | h0
          · exact h0
          · exfalso
            have h3 := h'.2
            rw [Nat.testBit_lt_two_pow (by have := Nat.lt_two_pow_self (n := j - e); omega)] at h3
            cases h3
        exact .inr ⟨e, by simp, .inl (by omega)⟩
      · exact .inr ⟨e, by simp, .inr h⟩
    · exact .inr ⟨e', by simp [he'], h⟩
/-- what the text's order has come to -/
structure TrOk [Orc] (P : Program) (base : Nat) (call : Caller) (ops : Array Oper) (l : List (Oper × Nat)) (f : List Value) (K : RW) (s : Nat) (es : List En) (eff : List Nat) (Ks : List RW) (g : List Value) : Prop where
  k0 : Ks[0]? = some K
  kl : Ks.length = eff.length + 1
  len : g.length = f.length
  same : ∀ t, (∀ p ∈ l, p.1.dst ≠ some t) → slot g t = slot f t
  en : ∀ (j : Nat) (o : Oper) (i : Nat) (e : En), l[j]? = some (o, i) → es[j]? = some e → s ≤ e.s ∧ Ks[e.s - s]? = some e.K ∧ (∀ t, (∀ (q : Nat) (p : Oper × Nat), l[q]? = some p → j ≤ q → p.1.dst ≠ some t) → slot g t = slot e.f t) ∧
    e.f.length = f.length ∧ e.w = Region.wanted o (yielded ops ⟨e.f⟩) ∧ (e.w = true → ∃ K2, stepAt P base call e.f o e.K = some (e.v, K2) ∧
      ((quiet P o.op = true ∨ K2 = e.K) ∧ e.ch = false ∨ e.ch = true ∧ eff[e.s - s]? = some i ∧ Ks[e.s - s + 1]? = some K2)) ∧ (e.w = false → e.v = undef)
theorem tr_spec [Ltr] [Orc] {call : Caller} {ops : Array Oper} : ∀ {l : List (Oper × Nat)} {f : List Value} {K : RW} {s : Nat} {es : List En} {eff : List Nat} {Ks : List RW} {g : List Value}, tr P base call ops l f K s = some (es, eff, Ks, g) → TrOk P base call ops l f K s es eff Ks g
  | [], f, K, s, es, eff, Ks, g, e => by
    obtain ⟨rfl, rfl, rfl, rfl⟩ : es = [] ∧ eff = [] ∧ Ks = [K] ∧ g = f := by
      have := Option.some.inj e
      simp only [Prod.mk.injEq] at this
      exact ⟨this.1.symm, this.2.1.symm, this.2.2.1.symm, this.2.2.2.symm⟩
    exact ⟨rfl, rfl, rfl, fun _ _ => rfl, fun j o i e h => by simp at h⟩
  | (o, i) :: l, f, K, s, es, eff, Ks, g, e => by
    unfold tr at e
    -- one more in front
    have quietly : ∀ {v : Value} {w : Bool} {es' : List En}, tr P base call ops l (pt o.dst v f) K s = some (es', eff, Ks, g) → es = ⟨f, K, v, K, s, w, false⟩ :: es' → w = Region.wanted o (yielded ops ⟨f⟩) →
        (w = true → ∃ K2, stepAt P base call f o K = some (v, K2) ∧ (quiet P o.op = true ∨ K2 = K)) → (w = false → v = undef) → TrOk P base call ops ((o, i) :: l) f K s es eff Ks g := by
      intro v w es' ht he hw hst hun
      subst he
      have T := tr_spec ht
      refine ⟨T.k0, T.kl, by rw [T.len, pt_len], fun t hn => ?_, fun j o' i' en hj hen => ?_⟩
      · rw [T.same t fun p hp => hn p (by simp [hp]), slot_pt (hn (o, i) (by simp))]
      · cases j with
        | zero =>
          obtain ⟨rfl, rfl⟩ : o = o' ∧ i = i' := by simpa using hj
          obtain rfl : (⟨f, K, v, K, s, w, false⟩ : En) = en := by simpa using hen
          refine ⟨Nat.le_refl _, by simpa using T.k0, fun t hn => ?_, rfl, hw, fun h => ?_, hun⟩
          · rw [T.same t fun p hp => ?_, slot_pt (hn 0 (o, i) rfl (Nat.le_refl _))]
            obtain ⟨q, hq, rfl⟩ := List.getElem_of_mem hp
            exact hn (q + 1) l[q] (by simp [hq]) (by omega)
          · obtain ⟨K2, h1, h2⟩ := hst h
            exact ⟨K2, h1, .inl ⟨h2, rfl⟩⟩
        | succ j =>
          obtain ⟨h1, h2, h3, h4, h5, h6, h7⟩ := T.en j o' i' en (by simpa using hj) (by simpa using hen)
          exact ⟨h1, h2, fun t hn => h3 t fun q p hq hjq => hn (q + 1) p (by simpa using hq) (by omega), by rw [h4, pt_len], h5, h6, h7⟩
    cases hw : Region.wanted o (yielded ops ⟨f⟩) with
    | false =>
      rw [hw] at e
      dsimp only [cond_false] at e
      cases ht : tr P base call ops l (pt o.dst undef f) K s with
      | none => rw [ht] at e; cases e
      | some q =>
        obtain ⟨es', eff', Ks', g'⟩ := q
        rw [ht] at e
        have := Option.some.inj e
        simp only [Prod.mk.injEq] at this
        obtain ⟨h1, rfl, rfl, rfl⟩ := this
        exact quietly ht h1.symm hw.symm (fun h => by cases h) (fun _ => rfl)
    | true =>
      rw [hw] at e
      dsimp only [cond_true] at e
      cases hst : stepAt P base call f o K with
      | none => rw [hst] at e; cases e
      | some q =>
        obtain ⟨v, K1⟩ := q
        rw [hst] at e
        dsimp only at e
        cases hq : (quiet P o.op || eqW K1 K) with
        | true =>
          rw [hq] at e
          dsimp only [cond_true] at e
          cases ht : tr P base call ops l (pt o.dst v f) K s with
          | none => rw [ht] at e; cases e
          | some q =>
            obtain ⟨es', eff', Ks', g'⟩ := q
            rw [ht] at e
            have := Option.some.inj e
            simp only [Prod.mk.injEq] at this
            obtain ⟨h1, rfl, rfl, rfl⟩ := this
            refine quietly ht h1.symm hw.symm (fun _ => ⟨K1, hst, ?_⟩) (fun h => by cases h)
            simp only [Bool.or_eq_true] at hq
            rcases hq with h | h
            · exact .inl h
            · exact .inr (eqW_eq h)
        | false =>
          rw [hq] at e
          dsimp only [cond_false] at e
          cases ht : tr P base call ops l (pt o.dst v f) K1 (s + 1) with
          | none => rw [ht] at e; cases e
          | some q =>
            obtain ⟨es', eff', Ks', g'⟩ := q
            rw [ht] at e
            have := Option.some.inj e
            simp only [Prod.mk.injEq] at this
            obtain ⟨rfl, rfl, rfl, rfl⟩ := this
            have T := tr_spec ht
            refine ⟨rfl, by simp [T.kl], by rw [T.len, pt_len], fun t hn => ?_, fun j o' i' en hj hen => ?_⟩
            · rw [T.same t fun p hp => hn p (by simp [hp]), slot_pt (hn (o, i) (by simp))]
            · cases j with
              | zero =>
                obtain ⟨rfl, rfl⟩ : o = o' ∧ i = i' := by simpa using hj
                obtain rfl : (⟨f, K, v, K1, s, true, true⟩ : En) = en := by simpa using hen
                refine ⟨Nat.le_refl _, by simp, fun t hn => ?_, rfl, hw.symm, fun _ => ⟨K1, hst, .inr ⟨rfl, by simp, by simpa using T.k0⟩⟩, fun h => by cases h⟩
                rw [T.same t fun p hp => ?_, slot_pt (hn 0 (o, i) rfl (Nat.le_refl _))]
                obtain ⟨q, hq, rfl⟩ := List.getElem_of_mem hp
                exact hn (q + 1) l[q] (by simp [hq]) (by omega)
              | succ j =>
                obtain ⟨h1, h2, h3, h4, h5, h6, h7⟩ := T.en j o' i' en (by simpa using hj) (by simpa using hen)
                have hs1 : en.s - s = en.s - (s + 1) + 1 := by omega
                refine ⟨by omega, by rw [hs1]; simpa using h2, fun t hn => h3 t fun q p hq hjq => hn (q + 1) p (by simpa using hq) (by omega), by rw [h4, pt_len], h5, fun hw => ?_, h7⟩
                obtain ⟨K2, a1, a2⟩ := h6 hw
                refine ⟨K2, a1, ?_⟩
                rcases a2 with a2 | ⟨b1, b2, b3⟩
                · exact .inl a2
                · exact .inr ⟨b1, by rw [hs1]; simpa using b2, by rw [hs1]; simpa using b3⟩
theorem lastK_spec : ∀ {Ks : List RW} {K : RW}, lastK Ks = some K → Ks[Ks.length - 1]? = some K
  | [], _, e => by cases e
  | [a], K, e => by obtain rfl := Option.some.inj e; rfl
  | a :: b :: l, K, e => by
    have := lastK_spec (Ks := b :: l) (K := K) e
    simpa using this
structure DI [Ltr] (ops : Array Oper) (s : St) (f : List Value) (eff : List Nat) (G : Nat) (X : Kep) (base : Nat) (E0 E : Ren) (w0 : World) (K : RW) (st : Nat) (listed : Array Bool) (a : Act) (w : World) : Prop where
  x : Ext E0 E
  b : Kp X w0 w
  d : RelD E s.ds a.defers
  len : a.tmps.size = s.f.length
  set : ∀ t i o, ops[i]? = some o → listed.getD i false = true → o.dst = some t → Rel E (slot f t) (a.tmps.getD t undef)
  old : ∀ t, (∀ i o, ops[i]? = some o → listed.getD i false = true → o.dst ≠ some t) → Rel E (slot s.f t) (a.tmps.getD t undef)
  rep : Rep X base E K w
  g : Gl G E
  sz : listed.size = ops.size
  e1 : ∀ p ∈ eff.take st, listed.getD p false = true
  e2 : ∀ p ∈ eff.drop st, listed.getD p false = false
  dc : ∀ i o, ops[i]? = some o → listed.getD i false = true → ∀ e ∈ bOn o, listed.getD e false = true
theorem getD_set {l : Array Bool} {i j : Nat} (hi : i < l.size) : (l.setIfInBounds i true).getD j false = (if j = i then true else l.getD j false) := by
  by_cases h : j = i
  · subst h; simp [hi]
  · have : i ≠ j := fun e => h e.symm
    simp [h, Array.getElem?_setIfInBounds_ne this]
theorem tmps_put {a : Act} {d : Option Tmp} {v : Value} {t : Nat} (h : d ≠ some t) : (a.put d v).tmps.getD t undef = a.tmps.getD t undef := by
  cases d with
  | none => rfl
  | some d =>
    have hne : d ≠ t := fun e => h (by rw [e])
    simp [Act.put, Array.getElem?_setIfInBounds_ne hne]
theorem tmps_put_same {a : Act} {t : Nat} {v : Value} (h : t < a.tmps.size) : (a.put (some t) v).tmps.getD t undef = v := by
  simp [Act.put, h]
theorem slot_out : ∀ {f : List Value} {t : Nat}, f.length ≤ t → slot f t = undef
  | [], _, _ => rfl
  | _ :: l, 0, h => by simp at h
  | _ :: l, t + 1, h => slot_out (f := l) (by simpa using h)
theorem slot_get : ∀ {f : List Value} {t : Nat}, t < f.length → f[t]? = some (slot f t)
  | [], _, h => by simp at h
  | _ :: l, 0, h => rfl
  | _ :: l, t + 1, h => by simpa [slot] using slot_get (f := l) (t := t) (by simpa using h)
/-- one more operation is done -/
theorem DI.step [Ltr] [Orc] {ops : Array Oper} {s : St} {f : List Value} {eff : List Nat} {E0 E F : Ren} {w0 w w' : World} {K K' : RW} {st st' : Nat} {listed : Array Bool} {a : Act} (D : DI ops s f eff G X base E0 E w0 K st listed a w)
    {i : Nat} {o : Oper} (ho : ops[i]? = some o) (hd : ∀ e ∈ bOn o, listed.getD e false = true) {v' : Value} (hlen : f.length = s.f.length) (hv : ∀ d, o.dst = some d → Rel F (slot f d) v') (x : Ext E F) (R : Rep X base F K' w') (b : Kp X w w')
    (e1 : ∀ p ∈ eff.take st', p = i ∨ listed.getD p false = true) (e2 : ∀ p ∈ eff.drop st', p ≠ i ∧ listed.getD p false = false) :
    DI ops s f eff G X base E0 F w0 K' st' (listed.setIfInBounds i true) (a.put o.dst v') w' := by
  have hi : i < listed.size := by rw [D.sz]; exact (Array.getElem?_eq_some_iff.1 ho).1
  have hsz : (a.put o.dst v').tmps.size = a.tmps.size := by cases hdst : o.dst <;> simp [Act.put]
  have at_i : ∀ d, o.dst = some d → Rel F (slot f d) ((a.put o.dst v').tmps.getD d undef) := by
    intro d hdd
    rw [hdd]
    rcases Nat.lt_or_ge d a.tmps.size with h | h
    · rw [tmps_put_same h]; exact hv d hdd
    · have h1 : slot f d = undef := slot_out (by rw [hlen, ← D.len]; exact h)
      have h2 : (a.put (some d) v').tmps.getD d undef = undef := by simp [Act.put, h]
      rw [h1, h2]
      exact .same rfl
  refine ⟨D.x.trans x, D.b.trans b, ?_, by rw [hsz, D.len], ?_, ?_, R, D.g.mono x, by simp [D.sz], ?_, ?_, ?_⟩
  · cases hdst : o.dst <;> exact D.d.mono x
  · intro t j oj hj hl hjd
    by_cases hot : o.dst = some t
    · exact at_i t hot
    · rw [tmps_put hot]
      rw [getD_set hi] at hl
      by_cases hji : j = i
      · subst hji
        rw [ho] at hj
        obtain rfl := Option.some.inj hj
        exact absurd hjd hot
      · rw [if_neg hji] at hl
        exact (D.set t j oj hj hl hjd).mono x
  · intro t ht
    have hot : o.dst ≠ some t := ht i o ho (by rw [getD_set hi, if_pos rfl])
    rw [tmps_put hot]
    refine (D.old t fun j oj hj hl => ht j oj hj ?_).mono x
    rw [getD_set hi]
    split
    · rfl
    · exact hl
  · intro p hp
    rw [getD_set hi]
    rcases e1 p hp with h | h
    · rw [if_pos h]
    · split
      · rfl
      · exact h
  · intro p hp
    obtain ⟨h1, h2⟩ := e2 p hp
    rw [getD_set hi, if_neg h1]
    exact h2
  · intro j oj hj hl e he
    rw [getD_set hi] at hl ⊢
    split
    · rfl
    · by_cases hji : j = i
      · subst hji
        rw [ho] at hj
        obtain rfl := Option.some.inj hj
        exact hd e he
      · rw [if_neg hji] at hl
        exact D.dc j oj hj hl e he
end
end Go.Proofs.YtkhmbphcjacgnaaGreatDoor
