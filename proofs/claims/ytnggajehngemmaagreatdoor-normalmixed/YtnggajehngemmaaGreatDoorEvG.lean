/-
  A run by reckoning: a region that draws its order comes to the same, whatever the order.
-/
import Derived.Test.YtnggajehngemmaaGreatDoorEvF
namespace Go.Proofs.YtnggajehngemmaaGreatDoor
open Go Go.RowKit
section
variable {P : Program} {G : Nat} {X : Kep} {base : Nat} {E : Ren}
theorem pt_len (d : Option Tmp) (v : Value) (f : List Value) : (pt d v f).length = f.length := by
  cases d <;> simp [pt]
theorem slot_set {t d : Nat} {v : Value} (h : d ≠ t) : ∀ (f : List Value), slot (f.set d v) t = slot f t := by
  intro f
  induction f generalizing t d with
  | nil => rfl
  | cons a l ih =>
    cases d with
    | zero => cases t with
      | zero => exact absurd rfl h
      | succ t => rfl
    | succ d => cases t with
      | zero => rfl
      | succ t => exact ih (fun e => h (by rw [e]))
theorem slot_pt [Ltr] [Orc] {t : Nat} {d : Option Tmp} {v : Value} (h : d ≠ some t) (f : List Value) : slot (pt d v f) t = slot f t := by
  cases d with
  | none => rfl
  | some d => exact slot_set (fun e => h (by rw [e])) f
theorem evOps_keeps [Ltr] [Orc] {call : Caller} {yld : Rounder} {ops : Array Oper} : ∀ (l : List Nat) {s s1 : St}, evOps P G base call yld ops l s = some s1 →
    s1.f.length = s.f.length ∧ ∀ t, (∀ (i : Nat) (o : Oper), ops[i]? = some o → o.dst ≠ some t) → slot s1.f t = slot s.f t
  | [], s, s1, e => by
    obtain rfl := Option.some.inj e
    exact ⟨rfl, fun _ _ => rfl⟩
  | i :: rest, s, s1, e => by
    unfold evOps at e
    cases ho : ops[i]? with
    | none => rw [ho] at e; cases e
    | some o =>
      rw [ho] at e
      dsimp only at e
      have go : ∀ {v : Value} {H1 : RW}, evOps P G base call yld ops rest ⟨pt o.dst v s.f, H1, s.ds⟩ = some s1 → s1.f.length = s.f.length ∧ ∀ t, (∀ (i : Nat) (o : Oper), ops[i]? = some o → o.dst ≠ some t) → slot s1.f t = slot s.f t := by
        intro v H1 e
        obtain ⟨h1, h2⟩ := evOps_keeps rest e
        exact ⟨by rw [h1]; exact pt_len _ _ _, fun t ht => by rw [h2 t ht]; exact slot_pt (ht i o ho) _⟩
      obtain ⟨_, e⟩ := cond_some e
      cases hw : Region.wanted o (yielded ops ⟨s.f⟩) with
      | false => rw [hw] at e; exact go e
      | true =>
        rw [hw] at e
        obtain ⟨_, e⟩ := cond_some e
        split at e
        · split at e
          · exact go e
          · cases e
        · split at e
          · exact go e
          · split at e
            · exact go e
            · exact go e
            · split at e
              · exact go e
              · cases e
            · cases e
theorem clos_bit {T : List Nat} {j : Nat} : ∀ (l : List Nat) (m : Nat), (l.foldl (fun m e => m ||| (1 <<< e ||| T.getD e 0)) m).testBit j = true → m.testBit j = true ∨ ∃ e ∈ l, j = e ∨ (T.getD e 0).testBit j = true
  | [], m, h => .inl h
  | e :: l, m, h => by
    rw [List.foldl_cons] at h
    rcases clos_bit l _ h with h | ⟨e', he', h⟩
    · rw [Nat.testBit_or, Nat.testBit_or] at h
      simp only [Bool.or_eq_true] at h
      rcases h with h | h | h
      · exact .inl h
      · have h' := h
        rw [Nat.testBit_shiftLeft] at h'
        simp only [Bool.and_eq_true, decide_eq_true_eq] at h'
        have h2 : j - e = 0 := by
          rcases Nat.eq_zero_or_pos (j - e) with h0 | h0
          · exact h0
          · exfalso
            have h3 := h'.2
            rw [Nat.testBit_lt_two_pow (by have := Nat.lt_two_pow_self (n := j - e); omega)] at h3
            cases h3
        exact .inr ⟨e, by simp, .inl (by omega)⟩
      · exact .inr ⟨e, by simp, .inr h⟩
    · exact .inr ⟨e', by simp [he'], h⟩
/-- what the text's order has come to -/
structure TrOk [Orc] (P : Program) (base : Nat) (call : Caller) (ops : Array Oper) (l : List (Oper × Nat)) (f : List Value) (K : RW) (s : Nat) (es : List En) (eff : List Nat) (Ks : List RW) (g : List Value) : Prop where
  k0 : Ks[0]? = some K
  kl : Ks.length = eff.length + 1
  len : g.length = f.length
  same : ∀ t, (∀ p ∈ l, p.1.dst ≠ some t) → slot g t = slot f t
  en : ∀ (j : Nat) (o : Oper) (i : Nat) (e : En), l[j]? = some (o, i) → es[j]? = some e → s ≤ e.s ∧ Ks[e.s - s]? = some e.K ∧ (∀ t, (∀ (q : Nat) (p : Oper × Nat), l[q]? = some p → j ≤ q → p.1.dst ≠ some t) → slot g t = slot e.f t) ∧
    e.f.length = f.length ∧ e.w = Region.wanted o (yielded ops ⟨e.f⟩) ∧ (e.w = true → ∃ K2, stepAt P base call e.f o e.K = some (e.v, K2) ∧
      ((quiet P o.op = true ∨ K2 = e.K) ∧ e.ch = false ∨ e.ch = true ∧ eff[e.s - s]? = some i ∧ Ks[e.s - s + 1]? = some K2)) ∧ (e.w = false → e.v = undef)
theorem tr_cons [Orc] {call : Caller} {ops : Array Oper} {o : Oper} {i : Nat} {l : List (Oper × Nat)} {f : List Value} {K : RW} {s : Nat} {es : List En} {eff : List Nat} {Ks : List RW} {g : List Value} (e : tr P base call ops ((o, i) :: l) f K s = some (es, eff, Ks, g)) :
    ∃ v e0 es' eff' Ks' K' s', es = e0 :: es' ∧ e0.f = f ∧ tr P base call ops l (pt o.dst v f) K' s' = some (es', eff', Ks', g) := by
  unfold tr at e
  cases hw : Region.wanted o (yielded ops ⟨f⟩) with
  | false =>
    rw [hw] at e
    dsimp only [cond_false] at e
    cases ht : tr P base call ops l (pt o.dst undef f) K s with
    | none => rw [ht] at e; cases e
    | some q =>
      obtain ⟨es', eff', Ks', g'⟩ := q
      rw [ht] at e
      have := Option.some.inj e
      simp only [Prod.mk.injEq] at this
      obtain ⟨h1, rfl, rfl, rfl⟩ := this
      exact ⟨_, _, _, _, _, _, _, h1.symm, rfl, ht⟩
  | true =>
    rw [hw] at e
    dsimp only [cond_true] at e
    cases hst : stepAt P base call f o K with
    | none => rw [hst] at e; cases e
    | some q =>
      obtain ⟨v, K1⟩ := q
      rw [hst] at e
      dsimp only at e
      cases hq : (quiet P o.op || eqW K1 K) with
      | true =>
        rw [hq] at e
        dsimp only [cond_true] at e
        cases ht : tr P base call ops l (pt o.dst v f) K s with
        | none => rw [ht] at e; cases e
        | some q =>
          obtain ⟨es', eff', Ks', g'⟩ := q
          rw [ht] at e
          have := Option.some.inj e
          simp only [Prod.mk.injEq] at this
          obtain ⟨h1, rfl, rfl, rfl⟩ := this
          exact ⟨_, _, _, _, _, _, _, h1.symm, rfl, ht⟩
      | false =>
        rw [hq] at e
        dsimp only [cond_false] at e
        cases ht : tr P base call ops l (pt o.dst v f) K1 (s + 1) with
        | none => rw [ht] at e; cases e
        | some q =>
          obtain ⟨es', eff', Ks', g'⟩ := q
          rw [ht] at e
          have := Option.some.inj e
          simp only [Prod.mk.injEq] at this
          obtain ⟨h1, rfl, rfl, rfl⟩ := this
          exact ⟨_, _, _, _, _, _, _, h1.symm, rfl, ht⟩
/-- the frame ahead of an operation: what none ahead of it writes is as it was -/
theorem tr_pre [Ltr] [Orc] {call : Caller} {ops : Array Oper} : ∀ {l : List (Oper × Nat)} {f : List Value} {K : RW} {s : Nat} {es : List En} {eff : List Nat} {Ks : List RW} {g : List Value}, tr P base call ops l f K s = some (es, eff, Ks, g) →
    ∀ (j : Nat) (o : Oper) (i : Nat) (e : En), l[j]? = some (o, i) → es[j]? = some e → ∀ t, (∀ (q : Nat) (p : Oper × Nat), l[q]? = some p → q < j → p.1.dst ≠ some t) → slot e.f t = slot f t
  | [], _, _, _, _, _, _, _, _, j, o, i, e, h, _, _, _ => by simp at h
  | (o, i) :: l, f, K, s, es, eff, Ks, g, h, j, o', i', e, hj, he, t, ht => by
    obtain ⟨v, e0, es', eff', Ks', K', s', rfl, h1, h2⟩ := tr_cons h
    cases j with
    | zero =>
      obtain rfl : e0 = e := by simpa using he
      rw [h1]
    | succ j =>
      rw [tr_pre h2 j o' i' e (by simpa using hj) (by simpa using he) t fun q p hq hjq => ht (q + 1) p (by simpa using hq) (by omega), slot_pt (ht 0 (o, i) rfl (by omega))]
theorem tr_spec [Ltr] [Orc] {call : Caller} {ops : Array Oper} : ∀ {l : List (Oper × Nat)} {f : List Value} {K : RW} {s : Nat} {es : List En} {eff : List Nat} {Ks : List RW} {g : List Value}, tr P base call ops l f K s = some (es, eff, Ks, g) → TrOk P base call ops l f K s es eff Ks g
  | [], f, K, s, es, eff, Ks, g, e => by
    obtain ⟨rfl, rfl, rfl, rfl⟩ : es = [] ∧ eff = [] ∧ Ks = [K] ∧ g = f := by
      have := Option.some.inj e
      simp only [Prod.mk.injEq] at this
      exact ⟨this.1.symm, this.2.1.symm, this.2.2.1.symm, this.2.2.2.symm⟩
    exact ⟨rfl, rfl, rfl, fun _ _ => rfl, fun j o i e h => by simp at h⟩
  | (o, i) :: l, f, K, s, es, eff, Ks, g, e => by
    unfold tr at e
    -- one more in front
    have quietly : ∀ {v : Value} {w : Bool} {es' : List En}, tr P base call ops l (pt o.dst v f) K s = some (es', eff, Ks, g) → es = ⟨f, K, v, K, s, w, false⟩ :: es' → w = Region.wanted o (yielded ops ⟨f⟩) →
        (w = true → ∃ K2, stepAt P base call f o K = some (v, K2) ∧ (quiet P o.op = true ∨ K2 = K)) → (w = false → v = undef) → TrOk P base call ops ((o, i) :: l) f K s es eff Ks g := by
      intro v w es' ht he hw hst hun
      subst he
      have T := tr_spec ht
      refine ⟨T.k0, T.kl, by rw [T.len, pt_len], fun t hn => ?_, fun j o' i' en hj hen => ?_⟩
      · rw [T.same t fun p hp => hn p (by simp [hp]), slot_pt (hn (o, i) (by simp))]
      · cases j with
        | zero =>
          obtain ⟨rfl, rfl⟩ : o = o' ∧ i = i' := by simpa using hj
          obtain rfl : (⟨f, K, v, K, s, w, false⟩ : En) = en := by simpa using hen
          refine ⟨Nat.le_refl _, by simpa using T.k0, fun t hn => ?_, rfl, hw, fun h => ?_, hun⟩
          · rw [T.same t fun p hp => ?_, slot_pt (hn 0 (o, i) rfl (Nat.le_refl _))]
            obtain ⟨q, hq, rfl⟩ := List.getElem_of_mem hp
            exact hn (q + 1) l[q] (by simp [hq]) (by omega)
          · obtain ⟨K2, h1, h2⟩ := hst h
            exact ⟨K2, h1, .inl ⟨h2, rfl⟩⟩
        | succ j =>
          obtain ⟨h1, h2, h3, h4, h5, h6, h7⟩ := T.en j o' i' en (by simpa using hj) (by simpa using hen)
          exact ⟨h1, h2, fun t hn => h3 t fun q p hq hjq => hn (q + 1) p (by simpa using hq) (by omega), by rw [h4, pt_len], h5, h6, h7⟩
    cases hw : Region.wanted o (yielded ops ⟨f⟩) with
    | false =>
      rw [hw] at e
      dsimp only [cond_false] at e
      cases ht : tr P base call ops l (pt o.dst undef f) K s with
      | none => rw [ht] at e; cases e
      | some q =>
        obtain ⟨es', eff', Ks', g'⟩ := q
        rw [ht] at e
        have := Option.some.inj e
        simp only [Prod.mk.injEq] at this
        obtain ⟨h1, rfl, rfl, rfl⟩ := this
        exact quietly ht h1.symm hw.symm (fun h => by cases h) (fun _ => rfl)
    | true =>
      rw [hw] at e
      dsimp only [cond_true] at e
      cases hst : stepAt P base call f o K with
      | none => rw [hst] at e; cases e
      | some q =>
        obtain ⟨v, K1⟩ := q
        rw [hst] at e
        dsimp only at e
        cases hq : (quiet P o.op || eqW K1 K) with
        | true =>
          rw [hq] at e
          dsimp only [cond_true] at e
          cases ht : tr P base call ops l (pt o.dst v f) K s with
          | none => rw [ht] at e; cases e
          | some q =>
            obtain ⟨es', eff', Ks', g'⟩ := q
            rw [ht] at e
            have := Option.some.inj e
            simp only [Prod.mk.injEq] at this
            obtain ⟨h1, rfl, rfl, rfl⟩ := this
            refine quietly ht h1.symm hw.symm (fun _ => ⟨K1, hst, ?_⟩) (fun h => by cases h)
            simp only [Bool.or_eq_true] at hq
            rcases hq with h | h
            · exact .inl h
            · exact .inr (eqW_eq h)
        | false =>
          rw [hq] at e
          dsimp only [cond_false] at e
          cases ht : tr P base call ops l (pt o.dst v f) K1 (s + 1) with
          | none => rw [ht] at e; cases e
          | some q =>
            obtain ⟨es', eff', Ks', g'⟩ := q
            rw [ht] at e
            have := Option.some.inj e
            simp only [Prod.mk.injEq] at this
            obtain ⟨rfl, rfl, rfl, rfl⟩ := this
            have T := tr_spec ht
            refine ⟨rfl, by simp [T.kl], by rw [T.len, pt_len], fun t hn => ?_, fun j o' i' en hj hen => ?_⟩
            · rw [T.same t fun p hp => hn p (by simp [hp]), slot_pt (hn (o, i) (by simp))]
            · cases j with
              | zero =>
                obtain ⟨rfl, rfl⟩ : o = o' ∧ i = i' := by simpa using hj
                obtain rfl : (⟨f, K, v, K1, s, true, true⟩ : En) = en := by simpa using hen
                refine ⟨Nat.le_refl _, by simp, fun t hn => ?_, rfl, hw.symm, fun _ => ⟨K1, hst, .inr ⟨rfl, by simp, by simpa using T.k0⟩⟩, fun h => by cases h⟩
                rw [T.same t fun p hp => ?_, slot_pt (hn 0 (o, i) rfl (Nat.le_refl _))]
                obtain ⟨q, hq, rfl⟩ := List.getElem_of_mem hp
                exact hn (q + 1) l[q] (by simp [hq]) (by omega)
              | succ j =>
                obtain ⟨h1, h2, h3, h4, h5, h6, h7⟩ := T.en j o' i' en (by simpa using hj) (by simpa using hen)
                have hs1 : en.s - s = en.s - (s + 1) + 1 := by omega
                refine ⟨by omega, by rw [hs1]; simpa using h2, fun t hn => h3 t fun q p hq hjq => hn (q + 1) p (by simpa using hq) (by omega), by rw [h4, pt_len], h5, fun hw => ?_, h7⟩
                obtain ⟨K2, a1, a2⟩ := h6 hw
                refine ⟨K2, a1, ?_⟩
                rcases a2 with a2 | ⟨b1, b2, b3⟩
                · exact .inl a2
                · exact .inr ⟨b1, by rw [hs1]; simpa using b2, by rw [hs1]; simpa using b3⟩
theorem lastK_spec : ∀ {Ks : List RW} {K : RW}, lastK Ks = some K → Ks[Ks.length - 1]? = some K
  | [], _, e => by cases e
  | [a], K, e => by obtain rfl := Option.some.inj e; rfl
  | a :: b :: l, K, e => by
    have := lastK_spec (Ks := b :: l) (K := K) e
    simpa using this
structure DI [Ltr] (ops : Array Oper) (s : St) (f : List Value) (eff : List Nat) (G : Nat) (X : Kep) (base : Nat) (E0 E : Ren) (w0 : World) (K : RW) (st : Nat) (listed : Array Bool) (a : Act) (w : World) : Prop where
  x : Ext E0 E
  b : Kp X w0 w
  d : RelD E s.ds a.defers
  len : a.tmps.size = s.f.length
  set : ∀ t i o, ops[i]? = some o → listed.getD i false = true → o.dst = some t → Rel E (slot f t) (a.tmps.getD t undef)
  old : ∀ t, (∀ i o, ops[i]? = some o → listed.getD i false = true → o.dst ≠ some t) → Rel E (slot s.f t) (a.tmps.getD t undef)
  rep : Rep X base E K w
  g : Gl G E
  sz : listed.size = ops.size
  e1 : ∀ p ∈ eff.take st, listed.getD p false = true
  e2 : ∀ p ∈ eff.drop st, listed.getD p false = false
  dc : ∀ i o, ops[i]? = some o → listed.getD i false = true → ∀ e ∈ bOn o, listed.getD e false = true
theorem getD_set {l : Array Bool} {i j : Nat} (hi : i < l.size) : (l.setIfInBounds i true).getD j false = (if j = i then true else l.getD j false) := by
  by_cases h : j = i
  · subst h; simp [hi]
  · have : i ≠ j := fun e => h e.symm
    simp [h, Array.getElem?_setIfInBounds_ne this]
theorem tmps_put {a : Act} {d : Option Tmp} {v : Value} {t : Nat} (h : d ≠ some t) : (a.put d v).tmps.getD t undef = a.tmps.getD t undef := by
  cases d with
  | none => rfl
  | some d =>
    have hne : d ≠ t := fun e => h (by rw [e])
    simp [Act.put, Array.getElem?_setIfInBounds_ne hne]
theorem tmps_put_same {a : Act} {t : Nat} {v : Value} (h : t < a.tmps.size) : (a.put (some t) v).tmps.getD t undef = v := by
  simp [Act.put, h]
theorem slot_out : ∀ {f : List Value} {t : Nat}, f.length ≤ t → slot f t = undef
  | [], _, _ => rfl
  | _ :: l, 0, h => by simp at h
  | _ :: l, t + 1, h => slot_out (f := l) (by simpa using h)
theorem slot_get : ∀ {f : List Value} {t : Nat}, t < f.length → f[t]? = some (slot f t)
  | [], _, h => by simp at h
  | _ :: l, 0, h => rfl
  | _ :: l, t + 1, h => by simpa [slot] using slot_get (f := l) (t := t) (by simpa using h)
/-- one more operation is done -/
theorem DI.step [Ltr] [Orc] {ops : Array Oper} {s : St} {f : List Value} {eff : List Nat} {E0 E F : Ren} {w0 w w' : World} {K K' : RW} {st st' : Nat} {listed : Array Bool} {a : Act} (D : DI ops s f eff G X base E0 E w0 K st listed a w)
    {i : Nat} {o : Oper} (ho : ops[i]? = some o) (hd : ∀ e ∈ bOn o, listed.getD e false = true) {v' : Value} (hlen : f.length = s.f.length) (hv : ∀ d, o.dst = some d → Rel F (slot f d) v') (x : Ext E F) (R : Rep X base F K' w') (b : Kp X w w')
    (e1 : ∀ p ∈ eff.take st', p = i ∨ listed.getD p false = true) (e2 : ∀ p ∈ eff.drop st', p ≠ i ∧ listed.getD p false = false) :
    DI ops s f eff G X base E0 F w0 K' st' (listed.setIfInBounds i true) (a.put o.dst v') w' := by
  have hi : i < listed.size := by rw [D.sz]; exact (Array.getElem?_eq_some_iff.1 ho).1
  have hsz : (a.put o.dst v').tmps.size = a.tmps.size := by cases hdst : o.dst <;> simp [Act.put]
  have at_i : ∀ d, o.dst = some d → Rel F (slot f d) ((a.put o.dst v').tmps.getD d undef) := by
    intro d hdd
    rw [hdd]
    rcases Nat.lt_or_ge d a.tmps.size with h | h
    · rw [tmps_put_same h]; exact hv d hdd
    · have h1 : slot f d = undef := slot_out (by rw [hlen, ← D.len]; exact h)
      have h2 : (a.put (some d) v').tmps.getD d undef = undef := by simp [Act.put, h]
      rw [h1, h2]
      exact .same rfl
  refine ⟨D.x.trans x, D.b.trans b, ?_, by rw [hsz, D.len], ?_, ?_, R, D.g.mono x, by simp [D.sz], ?_, ?_, ?_⟩
  · cases hdst : o.dst <;> exact D.d.mono x
  · intro t j oj hj hl hjd
    by_cases hot : o.dst = some t
    · exact at_i t hot
    · rw [tmps_put hot]
      rw [getD_set hi] at hl
      by_cases hji : j = i
      · subst hji
        rw [ho] at hj
        obtain rfl := Option.some.inj hj
        exact absurd hjd hot
      · rw [if_neg hji] at hl
        exact (D.set t j oj hj hl hjd).mono x
  · intro t ht
    have hot : o.dst ≠ some t := ht i o ho (by rw [getD_set hi, if_pos rfl])
    rw [tmps_put hot]
    refine (D.old t fun j oj hj hl => ht j oj hj ?_).mono x
    rw [getD_set hi]
    split
    · rfl
    · exact hl
  · intro p hp
    rw [getD_set hi]
    rcases e1 p hp with h | h
    · rw [if_pos h]
    · split
      · rfl
      · exact h
  · intro p hp
    obtain ⟨h1, h2⟩ := e2 p hp
    rw [getD_set hi, if_neg h1]
    exact h2
  · intro j oj hj hl e he
    rw [getD_set hi] at hl ⊢
    split
    · rfl
    · by_cases hji : j = i
      · subst hji
        rw [ho] at hj
        obtain rfl := Option.some.inj hj
        exact hd e he
      · rw [if_neg hji] at hl
        exact D.dc j oj hj hl e he
end
end Go.Proofs.YtnggajehngemmaaGreatDoor
/-
  A run by reckoning: a region that draws its order, whole.
-/
namespace Go.Proofs.YtnggajehngemmaaGreatDoor
open Go Go.RowKit
section
variable {P : Program} {G : Nat} {X : Kep} {base : Nat} {E : Ren}
theorem mem_zip {ops : Array Oper} {i : Nat} {o : Oper} (h : ops[i]? = some o) : (o, i) ∈ ops.toList.zipIdx := by
  rw [List.mem_zipIdx_iff_getElem?]
  simpa using h
theorem static_at [Ltr] [Orc] {ops : Array Oper} {T : List Nat} (hs : static G ops T = true) {i : Nat} {o : Oper} (h : ops[i]? = some o) :
    T.getD i 0 = clos T (bOn o) ∧ (∀ e ∈ bOn o, e < i) ∧ okReads G ops.toList T i (T.getD i 0) o = true := by
  unfold static at hs
  simp only [Bool.and_eq_true] at hs
  have := List.all_eq_true.1 hs.2 (o, i) (mem_zip h)
  simp only [Bool.and_eq_true] at this
  exact ⟨Nat.eq_of_beq_eq_true this.1.1, fun e he => Nat.le_of_ble_eq_true (List.all_eq_true.1 this.1.2 e he), this.2⟩
/-- what is ahead is done -/
theorem anc_done [Ltr] [Orc] {ops : Array Oper} {T : List Nat} (hs : static G ops T = true) {listed : Array Bool} (dc : ∀ (i : Nat) (o : Oper), ops[i]? = some o → listed.getD i false = true → ∀ e ∈ bOn o, listed.getD e false = true) (hsz : listed.size = ops.size) :
    ∀ (n i : Nat) (o : Oper) (j : Nat), i ≤ n → ops[i]? = some o → (∀ e ∈ bOn o, listed.getD e false = true) → (T.getD i 0).testBit j = true → listed.getD j false = true
  | n, i, o, j, hn, ho, hb, hj => by
    obtain ⟨h1, h2, _⟩ := static_at hs ho
    rw [h1] at hj
    rcases clos_bit (bOn o) 0 hj with h | ⟨e, he, h | h⟩
    · simp at h
    · rw [h]; exact hb e he
    · have hei := h2 e he
      have hi : i < ops.size := (Array.getElem?_eq_some_iff.1 ho).1
      have hel : e < ops.size := by omega
      cases n with
      | zero => omega
      | succ n => exact anc_done hs dc hsz n e ops[e] j (by omega) (by simp [hel]) (dc e ops[e] (by simp [hel]) (hb e he)) h
variable {call : Caller} {ops : Array Oper} {s : St} {f : List Value} {T eff : List Nat} {Ks : List RW} {E0 : Ren} {w0 w : World} {K : RW} {st : Nat} {listed : Array Bool} {a : Act}
theorem dst_mem {L : List Oper} {m t j : Nat} {o : Oper} (h : (L.zipIdx.all fun p => !dstIs t p.1 || m.testBit p.2) = true) (hj : L[j]? = some o) (hd : o.dst = some t) : m.testBit j = true := by
  have := List.all_eq_true.1 h (o, j) (by rw [List.mem_zipIdx_iff_getElem?]; simpa using hj)
  simpa [dstIs, hd] using this
/-- what is ahead comes earlier in the text -/
theorem anc_lt [Ltr] [Orc] (hs : static G ops T = true) : ∀ (n i : Nat) (o : Oper) (j : Nat), i ≤ n → ops[i]? = some o → (T.getD i 0).testBit j = true → j < i
  | n, i, o, j, hn, ho, hj => by
    obtain ⟨h1, h2, _⟩ := static_at hs ho
    rw [h1] at hj
    rcases clos_bit (bOn o) 0 hj with h | ⟨e, he, h | h⟩
    · simp at h
    · rw [h]; exact h2 e he
    · have hei := h2 e he
      have hi : i < ops.size := (Array.getElem?_eq_some_iff.1 ho).1
      have hel : e < ops.size := by omega
      cases n with
      | zero => omega
      | succ n => exact Nat.lt_trans (anc_lt hs n e ops[e] j (by omega) (by simp [hel]) h) hei
/-- nothing behind op i writes what it reads -/
theorem no_later [Ltr] [Orc] {L : List Oper} {m t i : Nat} (h : (L.zipIdx.all fun p => !dstIs t p.1 || m.testBit p.2) = true) (hm : ∀ j, m.testBit j = true → j < i) : ∀ (q : Nat) (p : Oper × Nat), L.zipIdx[q]? = some p → i ≤ q → p.1.dst ≠ some t := by
  intro q p hp hiq hd
  have hq : p.2 = q ∧ L[q]? = some p.1 := by
    rw [List.getElem?_zipIdx] at hp
    cases hl : L[q]? with
    | none => rw [hl] at hp; cases hp
    | some o => rw [hl] at hp; obtain rfl := Option.some.inj hp; exact ⟨by simp, rfl⟩
  have := dst_mem h hq.2 hd
  have := hm q this
  omega
theorem DI.reads [Ltr] [Orc] (D : DI ops s f eff G X base E0 E w0 K st listed a w) (hs : static G ops T = true) (hsame : ∀ t, (∀ (i : Nat) (o : Oper), ops[i]? = some o → o.dst ≠ some t) → slot f t = slot s.f t)
    {i : Nat} {o : Oper} (ho : ops[i]? = some o) (hb : ∀ e ∈ bOn o, listed.getD e false = true) (hun : listed.getD i false = false) {ef : List Value} (hpost : ∀ t, (∀ (q : Nat) (p : Oper × Nat), ops.toList.zipIdx[q]? = some p → i ≤ q → p.1.dst ≠ some t) → slot f t = slot ef t) (hpre : ∀ t, (∀ (q : Nat) (p : Oper × Nat), ops.toList.zipIdx[q]? = some p → q < i → p.1.dst ≠ some t) → slot ef t = slot s.f t) : ∀ x ∈ o.op.operands, Rel E (ev ef x) (a.eval x) := by
  intro x hx
  obtain ⟨_, _, hr⟩ := static_at hs ho
  unfold okReads at hr
  simp only [Bool.and_eq_true] at hr
  have hx' := List.all_eq_true.1 hr.1 x (by simpa using hx)
  simp only [Bool.and_eq_true] at hx'
  cases x with
  | const v => exact .same hx'.1
  | global g => obtain ⟨k, e⟩ := D.g g (by simpa [okC, Nat.blt_eq] using hx'.1); exact .ptr e
  | func g => exact .same rfl
  | tmp t =>
    show Rel E (slot ef t) (a.tmps.getD t undef)
    have h2 := hx'.2
    simp only [Bool.or_eq_true] at h2
    rcases h2 with h2 | h2
    · have h2 : (ops.toList.zipIdx.all fun p => !dstIs t p.1 || (T.getD i 0).testBit p.2) = true := h2
      rw [← hpost t (no_later h2 fun j h => anc_lt hs i i o j (Nat.le_refl _) ho h)]
      by_cases hw : ∃ (j : Nat) (oj : Oper), ops[j]? = some oj ∧ oj.dst = some t
      · obtain ⟨j, oj, hj, hd⟩ := hw
        have hbit := dst_mem h2 (by simpa using hj) hd
        exact D.set t j oj hj (anc_done hs D.dc D.sz i i o j (Nat.le_refl _) ho hb hbit) hd
      · have hno : ∀ (j : Nat) (oj : Oper), ops[j]? = some oj → oj.dst ≠ some t := fun j oj hj hd => hw ⟨j, oj, hj, hd⟩
        rw [hsame t hno]
        exact D.old t fun j oj hj _ => hno j oj hj
    · have h2 : (ops.toList.zipIdx.all fun p => !dstIs t p.1 || (T.getD p.2 0).testBit i) = true := h2
      have hbeh : ∀ (j : Nat) (oj : Oper), ops[j]? = some oj → oj.dst = some t → (T.getD j 0).testBit i = true := fun j oj hj hd => by
        have := List.all_eq_true.1 h2 (oj, j) (mem_zip hj)
        simpa [dstIs, hd] using this
      rw [hpre t fun q p hp hq hd => ?_]
      · exact D.old t fun j oj hj hl hd => by
          have := anc_done hs D.dc D.sz j j oj i (Nat.le_refl _) hj (D.dc j oj hj hl) (hbeh j oj hj hd)
          rw [hun] at this
          cases this
      · have hq2 : p.2 = q ∧ ops[q]? = some p.1 := by
          rw [List.getElem?_zipIdx] at hp
          cases hl : ops.toList[q]? with
          | none => rw [hl] at hp; cases hp
          | some o => rw [hl] at hp; obtain rfl := Option.some.inj hp; exact ⟨by simp, by simpa using hl⟩
        have := anc_lt hs q q p.1 i (Nat.le_refl _) hq2.2 (hbeh q p.1 hq2.2 hd)
        omega
theorem DI.want [Ltr] [Orc] (D : DI ops s f eff G X base E0 E w0 K st listed a w) (hs : static G ops T = true) (hlen : f.length = s.f.length) (hgd : ∀ o ∈ ops.toList, gdOk ops o f = true)
    {i : Nat} {o : Oper} (ho : ops[i]? = some o) (hb : ∀ e ∈ bOn o, listed.getD e false = true) : Region.wanted o (yielded ops a.tmps) = Region.wanted o (yielded ops ⟨f⟩) := by
  obtain ⟨_, _, hr⟩ := static_at hs ho
  unfold okReads at hr
  simp only [Bool.and_eq_true] at hr
  unfold Region.wanted
  cases hg : o.guard with
  | none => rfl
  | some g =>
    obtain ⟨j, want⟩ := g
    dsimp only
    have hj := hr.2
    rw [hg] at hj
    simp only [Bool.and_eq_true] at hj
    replace hj := hj.1
    have hjl := anc_done hs D.dc D.sz i i o j (Nat.le_refl _) ho hb hj.1
    have : yielded ops a.tmps j = yielded ops ⟨f⟩ j := by
      unfold yielded
      cases hd : (ops[j]?).bind (·.dst) with
      | none => rfl
      | some t =>
        have hjs : j < ops.size := by
          have : j < ops.toList.length := Nat.le_of_ble_eq_true hj.2
          simpa using this
        have hoj : ops[j]? = some ops[j] := by simp [hjs]
        have hdj : ops[j].dst = some t := by rw [hoj] at hd; simpa using hd
        have hrel := D.set t j ops[j] hoj hjl hdj
        show (match a.tmps[t]? with | some (.bool b) => some b | _ => none) = (match (⟨f⟩ : Array Value)[t]? with | some (.bool b) => some b | _ => none)
        rcases Nat.lt_or_ge t f.length with h | h
        · have h1 : (⟨f⟩ : Array Value)[t]? = some (slot f t) := by simpa using slot_get h
          have h2 : a.tmps[t]? = some (a.tmps.getD t undef) := by
            have : t < a.tmps.size := by rw [D.len, ← hlen]; exact h
            simp [this]
          rw [h1, h2]
          refine (hrel.isBool ?_).symm
          have h3 := hgd o (by simpa using Array.mem_of_getElem? ho)
          unfold gdOk at h3
          rw [hg] at h3
          dsimp only at h3
          rw [hd] at h3
          simpa using h3
        · have h1 : (⟨f⟩ : Array Value)[t]? = none := by simpa using h
          have h2 : a.tmps[t]? = none := by
            rw [Array.getElem?_eq_none_iff, D.len, ← hlen]; exact h
          rw [h1, h2]
    rw [this]
theorem chkAll_at [Orc] {Ks : List RW} : ∀ {l : List (Oper × Nat)} {es : List En}, chkAll P base call T eff f Ks l es = true → ∀ {j : Nat} {o : Oper} {i : Nat}, l[j]? = some (o, i) → ∃ en, es[j]? = some en ∧ ∀ (s : Nat) (K : RW), Ks[s]? = some K → chk1 P base call T eff f i o en s K = true
  | [], [], _, j, o, i, h => by simp at h
  | (o', i') :: l, en :: es, hc, j, o, i, h => by
    simp only [chkAll, Bool.and_eq_true] at hc
    cases j with
    | zero =>
      obtain ⟨rfl, rfl⟩ : o' = o ∧ i' = i := by simpa using h
      exact ⟨en, rfl, fun s K hK => List.all_eq_true.1 hc.1 (K, s) (by rw [List.mem_zipIdx_iff_getElem?]; simpa using hK)⟩
    | succ j => simpa using chkAll_at hc.2 (j := j) (o := o) (i := i) (by simpa using h)
  | [], _ :: _, hc, _, _, _, _ => by cases hc
  | _ :: _, [], hc, _, _, _, _ => by cases hc
end
end Go.Proofs.YtnggajehngemmaaGreatDoor
/-
  A run by reckoning: a region that draws its order comes to what it comes to in the text's order.
-/
namespace Go.Proofs.YtnggajehngemmaaGreatDoor
open Go Go.RowKit
section
variable {P : Program} {G : Nat} {X : Kep} {base : Nat} {E : Ren}
theorem relL_of [Ltr] : ∀ {f x : List Value}, f.length = x.length → (∀ t, t < f.length → Rel E (slot f t) (x.getD t undef)) → RelL E f x
  | [], [], _, _ => .nil
  | [], _ :: _, h, _ => by simp at h
  | _ :: _, [], h, _ => by simp at h
  | v :: f, u :: x, h, k => .cons (by simpa [slot] using k 0 (by simp)) (relL_of (by simpa using h) fun t ht => by simpa [slot] using k (t + 1) (by simpa using ht))
variable {call : Caller} {ops : Array Oper} {s : St} {f : List Value} {T : List Nat} {eff : List Nat} {es : List En} {Ks : List RW} {E0 : Ren} {w0 : World} {KN : RW}
theorem all_listed [Ltr] [Orc] (hs : static G ops T = true) {listed : Array Bool} (hsz : listed.size = ops.size) (hr : Region.ready .any ops listed = []) : ∀ i, i < ops.size → listed.getD i false = true := by
  intro i
  induction i using Nat.strongRecOn with
  | _ i ih =>
    intro hi
    cases hl : listed.getD i false with
    | true => rfl
    | false =>
      exfalso
      have ho : ops[i]? = some ops[i] := by simp [hi]
      obtain ⟨_, h2, _⟩ := static_at hs ho
      have : i ∈ Region.ready .any ops listed := mem_ready.2 ⟨by
        have : i < listed.size := by rw [hsz]; exact hi
        simp [this] at hl ⊢
        exact hl, ops[i], ho, fun e he hb => by
        have hm : e.on ∈ bOn ops[i] := List.mem_map.2 ⟨e, List.mem_filter.2 ⟨by simpa using he, hb⟩, rfl⟩
        have := h2 e.on hm
        exact ih e.on this (by omega)⟩
      rw [hr] at this
      cases this
theorem stepAt_memfree [Ltr] [Orc] {g : List Value} {o : Oper} {K0 K2 : RW} {v : Value} (hm : memfree o.op = true) (h : stepAt P base call g o K0 = some (v, K2)) (K : RW) : stepAt P base call g o K = some (v, K) := by
  unfold stepAt at h ⊢
  cases hoc : Orc.f o.op (ev g) with
  | some u =>
    rw [hoc] at h
    obtain ⟨rfl, rfl⟩ := Prod.mk.inj (Option.some.inj h)
    rfl
  | none =>
  rw [hoc] at h
  dsimp only at h ⊢
  cases hevm : evM P base (ev g) o K0 with
  | none => rw [hevm] at h; cases h
  | some p =>
    obtain ⟨nx, H1⟩ := p
    have hev := evM_free hm hevm
    have hq : quiet P o.op = true := by cases ho : o.op <;> rw [ho] at hm <;> first | rfl | cases hm
    obtain ⟨_, u, rfl⟩ := quiet_H hq hev
    rw [hevm] at h
    obtain ⟨rfl, rfl⟩ := Prod.mk.inj (Option.some.inj h)
    rw [evM_of (memfree_at hm hev K)]
theorem draw_any [Ltr] [Orc] [OrcOk P G X base] {ro : Option Nat} {n : Nat} (hc : CallOk P G X base call) (hs : static G ops T = true) (ht : TrOk P base call ops ops.toList.zipIdx s.f s.H 0 es eff Ks f) (hchk : chkAll P base call T eff f Ks ops.toList.zipIdx es = true) (hK : lastK Ks = some KN) (hnd : eff.Nodup) (hlt : ∀ p ∈ eff, p < ops.size) (hgd : ∀ o ∈ ops.toList, gdOk ops o f = true) (hpre : ∀ (j : Nat) (o : Oper) (i : Nat) (e : En), ops.toList.zipIdx[j]? = some (o, i) → es[j]? = some e → ∀ t, (∀ (q : Nat) (p : Oper × Nat), ops.toList.zipIdx[q]? = some p → q < j → p.1.dst ≠ some t) → slot e.f t = slot s.f t) :
    ∀ (fuel : Nat) (listed : Array Bool) (a : Act) (w : World) (E : Ren) (st : Nat) (K : RW) (U : List Nat), DI ops s f eff G X base E0 E w0 K st listed a w → Ks[st]? = some K → U.Nodup →
      (∀ i, i < ops.size → (listed.getD i false = false ↔ i ∈ U)) → U.length = fuel → wpAnyIn (Wd ro) n P .any ops (Post G X base E0 w0 .normal ⟨f, KN, s.ds⟩) fuel listed a w := by
  have hlen : f.length = s.f.length := ht.len
  have hk1 := ht.kl
  have hsame : ∀ t, (∀ (i : Nat) (o : Oper), ops[i]? = some o → o.dst ≠ some t) → slot f t = slot s.f t := fun t hn => ht.same t fun p hp => by
    obtain ⟨o, i⟩ := p
    rw [List.mem_zipIdx_iff_getElem?] at hp
    exact hn i o (by simpa using hp)
  have fin : ∀ (listed : Array Bool) (a : Act) (w : World) (E : Ren) (st : Nat) (K : RW), DI ops s f eff G X base E0 E w0 K st listed a w → Ks[st]? = some K → (∀ i, i < ops.size → listed.getD i false = true) →
      Post G X base E0 w0 .normal ⟨f, KN, s.ds⟩ .normal a w := by
    intro listed a w E st K D hst hall
    have hdrop : eff.drop st = [] := by
      cases hd : eff.drop st with
      | nil => rfl
      | cons p l =>
        exfalso
        have h1 := D.e2 p (by rw [hd]; simp)
        have hp : p ∈ eff := List.mem_of_mem_drop (i := st) (by rw [hd]; simp)
        rw [hall p (hlt p hp)] at h1
        cases h1
    have hge : eff.length ≤ st := List.drop_eq_nil_iff.1 hdrop
    have hlt' : st < Ks.length := by
      rcases Nat.lt_or_ge st Ks.length with h | h
      · exact h
      · rw [List.getElem?_eq_none h] at hst; cases hst
    have hse : st = Ks.length - 1 := by omega
    have := lastK_spec hK
    rw [← hse, hst] at this
    obtain rfl := Option.some.inj this
    refine ⟨rfl, E, D.x, ⟨D.d, relL_of (by simp [D.len, hlen]) fun t _ => ?_, D.rep, D.g⟩, D.b⟩
    rw [← getD_toList]
    by_cases hw : ∃ (j : Nat) (oj : Oper), ops[j]? = some oj ∧ oj.dst = some t
    · obtain ⟨j, oj, hj, hd⟩ := hw
      exact D.set t j oj hj (hall j (Array.getElem?_eq_some_iff.1 hj).1) hd
    · have hno : ∀ (j : Nat) (oj : Oper), ops[j]? = some oj → oj.dst ≠ some t := fun j oj hj hd => hw ⟨j, oj, hj, hd⟩
      rw [hsame t hno]
      exact D.old t fun j oj hj _ => hno j oj hj
  intro fuel
  induction fuel with
  | zero =>
    intro listed a w E st K U D hst hU hUi hUl
    have hall : ∀ i, i < ops.size → listed.getD i false = true := by
      intro i hi
      cases hl : listed.getD i false with
      | true => rfl
      | false =>
        have := (hUi i hi).1 hl
        rw [List.eq_nil_of_length_eq_zero hUl] at this
        cases this
    refine ⟨?_, fin listed a w E st K D hst hall⟩
    cases hr : Region.ready .any ops listed with
    | nil => rfl
    | cons i l =>
      exfalso
      obtain ⟨h1, o, ho, _⟩ := mem_ready.1 (show i ∈ Region.ready .any ops listed by rw [hr]; simp)
      have hi := (Array.getElem?_eq_some_iff.1 ho).1
      have h2 := hall i hi
      have : i < listed.size := by rw [D.sz]; exact hi
      simp [this] at h1 h2
      rw [h1] at h2
      cases h2
  | succ fuel ih =>
    intro listed a w E st K U D hst hU hUi hUl
    refine ⟨fun hr => fin listed a w E st K D hst (all_listed hs D.sz hr), fun i hi => ?_⟩
    obtain ⟨h1, o, ho, hdeps⟩ := mem_ready.1 hi
    have hilt := (Array.getElem?_eq_some_iff.1 ho).1
    have hil : i < listed.size := by rw [D.sz]; exact hilt
    have hun : listed.getD i false = false := by
      simp [hil] at h1 ⊢
      exact h1
    have hb : ∀ e ∈ bOn o, listed.getD e false = true := by
      intro e he
      obtain ⟨ed, hm, rfl⟩ := List.mem_map.1 he
      obtain ⟨m1, m2⟩ := List.mem_filter.1 hm
      exact hdeps ed (by simpa using m1) m2
    have hoi : ops.toList.zipIdx[i]? = some (o, i) := by rw [List.getElem?_zipIdx]; simp [ho]
    obtain ⟨en, hen, hchks⟩ := chkAll_at hchk hoi
    have hchk1 := hchks st K hst
    obtain ⟨_, ht2, ht3, ht4, ht5, ht6, ht7⟩ := ht.en i o i en hoi hen
    rw [Nat.sub_zero] at ht2 ht6
    have hstat := (static_at hs ho).2.2
    unfold okReads at hstat
    simp only [Bool.and_eq_true] at hstat
    have hlate := fun j h => anc_lt hs i i o j (Nat.le_refl _) ho h
    have hwant : en.w = Region.wanted o (yielded ops ⟨f⟩) := by
      rw [ht5]
      unfold Region.wanted
      cases hg : o.guard with
      | none => rfl
      | some gd =>
        obtain ⟨j, want⟩ := gd
        dsimp only
        have h2 := hstat.2
        rw [hg] at h2
        simp only [Bool.and_eq_true] at h2
        have : yielded ops ⟨en.f⟩ j = yielded ops ⟨f⟩ j := by
          unfold yielded
          have e1 : ops.toList[j]? = ops[j]? := by simp
          rw [e1] at h2
          cases hd : (ops[j]?).bind (·.dst) with
          | none => rfl
          | some t =>
            rw [hd] at h2
            have hsl := ht3 t (no_later h2.2 hlate)
            show (match (⟨en.f⟩ : Array Value)[t]? with | some (.bool b) => some b | _ => none) = (match (⟨f⟩ : Array Value)[t]? with | some (.bool b) => some b | _ => none)
            rcases Nat.lt_or_ge t f.length with h | h
            · have h3 : (⟨f⟩ : Array Value)[t]? = some (slot f t) := by simpa using slot_get h
              have h4 : (⟨en.f⟩ : Array Value)[t]? = some (slot en.f t) := by
                have : t < en.f.length := by rw [ht4, ← hlen]; exact h
                simpa using slot_get this
              rw [h3, h4, hsl]
            · have h3 : (⟨f⟩ : Array Value)[t]? = none := by simpa using h
              have h4 : (⟨en.f⟩ : Array Value)[t]? = none := by
                have : en.f.length ≤ t := by rw [ht4, ← hlen]; exact h
                simpa using this
              rw [h3, h4]
        rw [this]
    have hanc := fun j h => anc_done hs D.dc D.sz i i o j (Nat.le_refl _) ho hb h
    have hC : (bif en.w then bif Nat.beq en.s st then dstOk o en.v f && (en.ch || !eff.elem i) else bif memfree o.op then dstOk o en.v f && !eff.elem i else match stepAt P base call en.f o K with
        | some (v, K1) => dstOk o v f && !eff.elem i && (quiet P o.op || eqW K1 K)
        | none => false
      else dstOk o undef f && !eff.elem i) = true := by
      unfold chk1 at hchk1
      simp only [Bool.or_eq_true] at hchk1
      rcases hchk1 with (h | h) | h
      · exfalso
        obtain ⟨p, hp, hbit⟩ := List.any_eq_true.1 h
        have := hanc p hbit
        rw [D.e2 p hp] at this
        cases this
      · exfalso
        obtain ⟨p, hp, hbit⟩ := List.any_eq_true.1 h
        simp only [Bool.or_eq_true] at hbit
        have hpl := D.e1 p hp
        rcases hbit with hbit | hbit
        · rw [Nat.eq_of_beq_eq_true hbit, hun] at hpl
          cases hpl
        · have hpl' := hlt p (List.mem_of_mem_take hp)
          obtain ⟨op, hop⟩ : ∃ op, ops[p]? = some op := ⟨ops[p], by simp [hpl']⟩
          have := anc_done hs D.dc D.sz p p op i (Nat.le_refl _) hop (D.dc p op hop hpl) hbit
          rw [hun] at this
          cases this
      · exact h
    have next : ∀ {F : Ren} {v' : Value} {K' : RW} {st' : Nat} {w' : World}, (∀ d, o.dst = some d → Rel F (slot f d) v') → Ext E F → Rep X base F K' w' → Kp X w w' → Ks[st']? = some K' →
        (∀ p ∈ eff.take st', p = i ∨ listed.getD p false = true) → (∀ p ∈ eff.drop st', p ≠ i ∧ listed.getD p false = false) →
        wpAnyIn (Wd ro) n P .any ops (Post G X base E0 w0 .normal ⟨f, KN, s.ds⟩) fuel (listed.setIfInBounds i true) (a.put o.dst v') w' := by
      intro F v' K' st' w' hv x R b hKs he1 he2
      refine ih _ _ w' F st' K' (U.erase i) (D.step ho hb hlen hv x R b he1 he2) hKs (hU.erase i) ?_ ?_
      · intro j hj
        rw [getD_set hil]
        by_cases hji : j = i
        · subst hji
          rw [if_pos rfl]
          constructor
          · intro h; cases h
          · intro h; exact absurd h (List.Nodup.not_mem_erase hU)
        · rw [if_neg hji, hUi j hj, List.mem_erase_of_ne hji]
      · rw [List.length_erase_of_mem ((hUi i hilt).1 hun), hUl]
        rfl
    have hdst : ∀ {v : Value}, dstOk o v f = true → ∀ d, o.dst = some d → v = slot f d := by
      intro v h d hd
      unfold dstOk at h
      rw [hd] at h
      exact veqn_eq 4 _ _ h
    unfold wpOpIn
    rw [ho]
    dsimp only
    rw [D.want hs hlen hgd ho hb, ← hwant]
    cases hw : en.w with
    | false =>
      rw [hw] at hC
      simp only [Bool.false_eq_true, if_false]
      dsimp only [cond_false] at hC
      simp only [Bool.and_eq_true, Bool.not_eq_true'] at hC
      have hni : i ∉ eff := fun h => by rw [List.elem_eq_true_of_mem h] at hC; cases hC.2
      exact ⟨fun f _ => wd_fn f, next (fun d hd => by rw [← hdst hC.1 d hd]; exact .same rfl) (Ext.refl E) D.rep (Kp.refl _ _) hst (fun p hp => .inr (D.e1 p hp)) (fun p hp => ⟨fun h => hni (h ▸ List.mem_of_mem_drop hp), D.e2 p hp⟩)⟩
    | true =>
      rw [hw] at hC
      simp only [if_true]
      dsimp only [cond_true] at hC
      -- what it comes to, and how memory stands behind it
      have ⟨v, K1, hstep, hdo, hqe⟩ : ∃ v K1, stepAt P base call en.f o K = some (v, K1) ∧ dstOk o v f = true ∧ (i ∉ eff ∧ (quiet P o.op = true ∨ K1 = K) ∨ eff[st]? = some i ∧ Ks[st + 1]? = some K1) := by
        cases hcan : Nat.beq en.s st with
        | true =>
          rw [hcan] at hC
          dsimp only [cond_true] at hC
          simp only [Bool.and_eq_true, Bool.or_eq_true, Bool.not_eq_true'] at hC
          have hes := Nat.eq_of_beq_eq_true hcan
          rw [hes] at ht2 ht6
          rw [hst] at ht2
          obtain rfl := Option.some.inj ht2
          obtain ⟨K2, h1, h2⟩ := ht6 hw
          refine ⟨en.v, K2, h1, hC.1, ?_⟩
          rcases h2 with ⟨h2, h3⟩ | ⟨_, h3, h4⟩
          · rw [h3] at hC
            exact .inl ⟨fun h => (by rw [List.elem_eq_true_of_mem h] at hC; simp at hC), h2⟩
          · exact .inr ⟨h3, h4⟩
        | false =>
          rw [hcan] at hC
          dsimp only [cond_false] at hC
          cases hmf : memfree o.op with
          | true =>
            rw [hmf] at hC
            dsimp only [cond_true] at hC
            simp only [Bool.and_eq_true, Bool.not_eq_true'] at hC
            obtain ⟨K2, h1, _⟩ := ht6 hw
            exact ⟨en.v, K, stepAt_memfree hmf h1 K, hC.1, .inl ⟨fun h => (by rw [List.elem_eq_true_of_mem h] at hC; cases hC.2), .inr rfl⟩⟩
          | false =>
          rw [hmf] at hC
          dsimp only [cond_false] at hC
          cases hstp : stepAt P base call en.f o K with
          | none => rw [hstp] at hC; cases hC
          | some q =>
            obtain ⟨v, K1⟩ := q
            rw [hstp] at hC
            simp only [Bool.and_eq_true, Bool.or_eq_true, Bool.not_eq_true'] at hC
            refine ⟨v, K1, rfl, hC.1.1, .inl ⟨fun h => (by rw [List.elem_eq_true_of_mem h] at hC; cases hC.1.2), ?_⟩⟩
            rcases hC.2 with h | h
            · exact .inl h
            · exact .inr (eqW_eq h)
      have hval := fun d hd => hdst hdo d hd
      have go : ∀ {F : Ren} {v' : Value} {w' : World}, Rel F v v' → Ext E F → Rep X base F K1 w' → Kp X w w' → (quiet P o.op = true → K1 = K) →
          wpAnyIn (Wd ro) n P .any ops (Post G X base E0 w0 .normal ⟨f, KN, s.ds⟩) fuel (listed.setIfInBounds i true) (a.put o.dst v') w' := by
        intro F v' w' rv x R b hq
        rcases hqe with ⟨hni, hqq⟩ | ⟨hes, hKs⟩
        · have hKK : K1 = K := by
            rcases hqq with h | h
            · exact hq h
            · exact h
          rw [hKK] at R
          exact next (fun d hd => by rw [← hval d hd]; exact rv) x R b hst (fun p hp => .inr (D.e1 p hp)) (fun p hp => ⟨fun h => hni (h ▸ List.mem_of_mem_drop hp), D.e2 p hp⟩)
        · have hlt' : st < eff.length := by
            rcases Nat.lt_or_ge st eff.length with h | h
            · exact h
            · rw [List.getElem?_eq_none h] at hes; cases hes
          have hpe : eff[st] = i := by rw [List.getElem?_eq_getElem hlt'] at hes; exact Option.some.inj hes
          refine next (st' := st + 1) (fun d hd => by rw [← hval d hd]; exact rv) x R b hKs ?_ ?_
          · intro q hq
            rw [List.take_succ_eq_append_getElem hlt', List.mem_append] at hq
            rcases hq with hq | hq
            · exact .inr (D.e1 q hq)
            · exact .inl (by rw [← hpe]; simpa using hq)
          · intro q hq
            have hq' : q ∈ eff.drop st := by rw [List.drop_eq_getElem_cons hlt']; exact List.mem_cons_of_mem _ hq
            refine ⟨fun hqp => ?_, D.e2 q hq'⟩
            have hnd' : (eff.drop st).Nodup := List.Nodup.sublist (List.drop_sublist _ _) hnd
            rw [List.drop_eq_getElem_cons hlt', List.nodup_cons, hpe] at hnd'
            exact hnd'.1 (hqp ▸ hq)
      have hreads : ∀ x ∈ o.op.operands, Rel E (ev en.f x) (a.eval x) := D.reads hs hsame ho hb hun ht3 (hpre i o i en hoi hen)
      unfold stepAt at hstep
      cases hoc : Orc.f o.op (ev en.f) with
      | some u =>
        rw [hoc] at hstep
        obtain ⟨rfl, rfl⟩ := Prod.mk.inj (Option.some.inj hstep)
        obtain ⟨v', hr, rv, hnd⟩ := OrcOk.ok (P := P) (G := G) (X := X) (base := base) o (ev en.f) a.eval E _ hreads hoc w D.rep.fx
        refine upon_of hnd ?_
        rw [hr]
        exact go rv (Ext.refl E) D.rep (Kp.refl _ _) fun _ => rfl
      | none =>
      rw [hoc] at hstep
      dsimp only at hstep
      cases hev : evM P base (ev en.f) o K with
      | none => rw [hev] at hstep; cases hstep
      | some p =>
        obtain ⟨nx, H1⟩ := p
        rw [hev] at hstep
        obtain ⟨F, nx', w', hr, x1, R1, b1, rn⟩ := evM_sound (G := G) (X := X) (E := E) (ρ' := a.eval) (w := w) hreads D.rep hev
        refine upon_of (evM_nodefer (G := G) (X := X) hev) ?_
        rw [hr]
        cases nx with
        | value u =>
          obtain ⟨rfl, rfl⟩ := Prod.mk.inj (Option.some.inj hstep)
          cases nx' with
          | value v' => exact go rn x1 R1 b1 fun hq => (evM_quiet (G := G) (X := X) hq hev).1
          | _ => exact rn.elim
        | skip =>
          obtain ⟨rfl, rfl⟩ := Prod.mk.inj (Option.some.inj hstep)
          cases nx' with
          | skip => exact go (.same rfl) x1 R1 b1 fun hq => (evM_quiet (G := G) (X := X) hq hev).1
          | _ => exact rn.elim
        | enter g args =>
          cases nx' with
          | enter g' args' =>
            obtain ⟨rfl, ra⟩ := rn
            have hcl : call g args.toList H1 = some (v, K1) := hstep
            refine ⟨wd_depth, CallsIn.mono (calls_wd (hc g args.toList H1 v K1 F w' args'.toList R1 (D.g.mono x1) ra hcl)) fun en w2 p => ?_⟩
            obtain ⟨v', F2, rfl, x2, R2, b2, rv⟩ := p
            exact go rv (x1.trans x2) R2 (b1.trans b2) fun hq => by
              obtain ⟨_, u, hu⟩ := evM_quiet (G := G) (X := X) hq hev
              cases hu
          | _ => exact rn.elim
        | _ => cases hstep
theorem drawEv_sound [Ltr] [Orc] [OrcOk P G X base] {ro : Option Nat} {n : Nat} (hm : P.follows .mixedOrders = true) (hc : CallOk P G X base call) {id : Nat} {s1 : St} {a : Act} {w : World} (h : FR G X base E s a w) (e : drawEv P G base call ops s = some s1) : (Code.region id ops true).wpIn (Wd ro) n P (Post G X base E w .normal s1) a w := by
  unfold drawEv at e
  split at e
  · cases e
  · rename_i es eff Ks f htr
    obtain ⟨hck, e⟩ := cond_some e
    simp only [Bool.and_eq_true] at hck
    split at e
    · rename_i KN hK
      obtain rfl := Option.some.inj e
      have T := tr_spec htr
      refine wpIn_region_any hm ?_
      have hrep : Rep X base E s.H { w with drawn := w.drawn + 1 } := ⟨h.r.dom, h.r.ok', h.r.inj, h.r.new, h.r.lt, h.r.bn, h.r.fx⟩
      have hf : ∀ i, (Array.replicate ops.size false).getD i false = false := fun i => by
        rcases Nat.lt_or_ge i ops.size with h | h <;> simp [h]
      refine draw_any hc hck.1.1.1.1 T hck.1.1.1.2 hK (ndp_nodup hck.1.1.2) (fun p hp => Nat.le_of_ble_eq_true (List.all_eq_true.1 hck.2 p hp)) (fun o ho => List.all_eq_true.1 hck.1.2 o ho) (tr_pre htr) ops.size _ a _ E 0 s.H (List.range ops.size) ⟨Ext.refl E, ⟨rfl, rfl, rfl, Nat.le_refl _, fun _ _ => rfl⟩, h.d, ?_, ?_, ?_, hrep, h.g, by simp, ?_, ?_, ?_⟩ T.k0 List.nodup_range ?_ (by simp)
      · have := h.t.length; simpa using this
      · intro t i o _ hi; rw [hf] at hi; cases hi
      · intro t _; rw [getD_toList]; exact slot_rel h.t t
      · intro p hp; simp at hp
      · intro p _; exact hf p
      · intro i o _ hi; rw [hf] at hi; cases hi
      · intro i hi; simp [hi, hf]
    · cases e
end
end Go.Proofs.YtnggajehngemmaaGreatDoor
/-
  A run by reckoning: the commonest operations by a shorter way.
-/
namespace Go.Proofs.YtnggajehngemmaaGreatDoor
open Go Go.RowKit
def binX (op : BinOp) (u v : Value) : Option Value :=
  match u, v with
  | .int k a, .int k' b => bif decide (k = k') then match op with
      | .add => some (.int k (k.wrap (a + b)))
      | .sub => some (.int k (k.wrap (a - b)))
      | .mul => some (.int k (k.wrap (a * b)))
      | .quo => bif decide (b = 0) then none else some (.int k (k.wrap (a.tdiv b)))
      | .rem => bif decide (b = 0) then none else some (.int k (a.tmod b))
      | .eql => some (.bool (a == b))
      | .neq => some (.bool (a != b))
      | .lss => some (.bool (decide (a < b)))
      | .leq => some (.bool (decide (a ≤ b)))
      | .gtr => some (.bool (decide (a > b)))
      | .geq => some (.bool (decide (a ≥ b)))
      | _ => none
    else none
  | _, _ => none
def okO (G : Nat) (o : Oper) : Bool :=
  match o.op with
  | .move x => okC G x
  | .assign x => okC G x
  | .binOp _ _ x y _ => okC G x && okC G y
  | .load _ x => okC G x
  | .extract x _ => okC G x
  | .fieldAddr _ x _ => okC G x
  | .indexAddr _ x y => okC G x && okC G y
  | op => op.operands.toList.all (okC G)
def slowX [Orc] (P : Program) (base : Nat) (f : List Value) (o : Oper) (H : RW) : Option (Next × RW) := evM P base (ev f) o H
def pickX (c a b : Value) (H : RW) : Option (Next × RW) :=
  match c with
  | .bool t => some (.value (bif t then a else b), H)
  | _ => none
def extX (x : Value) (i : Nat) (H : RW) : Option (Next × RW) :=
  match x with
  | .tuple vs => match vs[i]? with
    | some v => some (.value v, H)
    | none => none
  | _ => none
def loadX (P : Program) (t : TypeId) (x : Value) (H : RW) : Option Value :=
  match svp P (Go.isAgg t), x with
  | some false, .pointer (some a) => H.cell a
  | _, _ => none
def indX (P : Program) (t : TypeId) (x y : Value) : Option Value :=
  match svp P (Go.underlying t), x, y with
  | some (.slice el), .slice (some a) n _, .int _ i => match svp P (Go.sizeOf el) with
    | some sz => bif decide (0 ≤ i) && decide (i < n) then some (.pointer (some (a.add (i.toNat * sz)))) else none
    | none => none
  | _, _, _ => none
def evX [Orc] (P : Program) (base : Nat) (f : List Value) (o : Oper) (H : RW) : Option (Next × RW) :=
  match o.op with
  | .move x => some (.value (ev f x), H)
  | .assign x => some (.value (ev f x), H)
  | .binOp op _ x y _ => match binX op (ev f x) (ev f y) with
    | some v => some (.value v, H)
    | none => slowX P base f o H
  | .pick c a b => pickX (ev f c) (ev f a) (ev f b) H
  | .extract x i => extX (ev f x) i H
  | .load t x => match loadX P t (ev f x) H with
    | some v => some (.value v, H)
    | none => slowX P base f o H
  | .indexAddr t x y => match indX P t (ev f x) (ev f y) with
    | some v => some (.value v, H)
    | none => slowX P base f o H
  | _ => slowX P base f o H
section
variable {P : Program} {G base : Nat}
theorem okO_all {o : Oper} (h : okO G o = true) : o.op.operands.toList.all (okC G) = true := by
  unfold okO at h
  cases ho : o.op <;> simp only [ho] at h <;> first | exact h | simp [Op.operands, h] | (simp only [Bool.and_eq_true] at h; simp [Op.operands, h.1, h.2])
theorem binX_flat [Ltr] {op : BinOp} {u v r : Value} (h : binX op u v = some r) : flat u = true ∧ flat v = true ∧ flat r = true := by
  unfold binX at h
  split at h
  · refine ⟨rfl, rfl, ?_⟩
    have hh := cond_some h
    clear h
    obtain ⟨_, h⟩ := hh
    split at h <;> first | (obtain rfl := Option.some.inj h; rfl) | (cases h; done) | skip
    all_goals
      rw [Bool.cond_eq_ite] at h
      split at h
      · cases h
      · obtain rfl := Option.some.inj h; rfl
  · cases h
theorem binX_run [Ltr] {ρ : Operand → Value} {o : Oper} {op : BinOp} {t t' : TypeId} {x y : Operand} {r : Value} (ho : o.op = .binOp op t x y t') (h : binX op (ρ x) (ρ y) = some r) : svp P (execOp ρ o) = some (.value r) := by
  unfold binX at h
  split at h
  · rename_i k a k' b hx hy
    have hh := cond_some h
    clear h
    obtain ⟨hk, h⟩ := hh
    obtain rfl := of_decide_eq_true hk
    have go : ∀ {s : Sem Value} {u : Value}, svp P s = some u → svp P (do Pure.pure (Next.value (← s)) : Sem Next) = some (.value u) := fun {s u} hs => by
      show svp P (Sem.bind s _) = _
      rw [svp_bind hs]
      rfl
    simp only [execOp, ho, hx, hy]
    refine go ?_
    cases op with
    | add =>
      obtain rfl := Option.some.inj h
      show svp P (if k ≠ k then Go.stuck _ else _) = _
      rw [if_neg (by simp)]
      rfl
    | sub =>
      obtain rfl := Option.some.inj h
      show svp P (if k ≠ k then Go.stuck _ else _) = _
      rw [if_neg (by simp)]
      rfl
    | mul =>
      obtain rfl := Option.some.inj h
      show svp P (if k ≠ k then Go.stuck _ else _) = _
      rw [if_neg (by simp)]
      rfl
    | eql =>
      obtain rfl := Option.some.inj h
      show svp P (if k ≠ k then Go.stuck _ else _) = _
      rw [if_neg (by simp)]
      rfl
    | neq =>
      obtain rfl := Option.some.inj h
      show svp P (if k ≠ k then Go.stuck _ else _) = _
      rw [if_neg (by simp)]
      rfl
    | lss =>
      obtain rfl := Option.some.inj h
      show svp P (if k ≠ k then Go.stuck _ else _) = _
      rw [if_neg (by simp)]
      rfl
    | leq =>
      obtain rfl := Option.some.inj h
      show svp P (if k ≠ k then Go.stuck _ else _) = _
      rw [if_neg (by simp)]
      rfl
    | gtr =>
      obtain rfl := Option.some.inj h
      show svp P (if k ≠ k then Go.stuck _ else _) = _
      rw [if_neg (by simp)]
      rfl
    | geq =>
      obtain rfl := Option.some.inj h
      show svp P (if k ≠ k then Go.stuck _ else _) = _
      rw [if_neg (by simp)]
      rfl
    | quo =>
      cases hb : decide (b = 0) with
      | true => simp only [hb, cond_true] at h; cases h
      | false =>
        simp only [hb, cond_false] at h
        obtain rfl := Option.some.inj h
        show svp P (if k ≠ k then Go.stuck _ else _) = _
        rw [if_neg (by simp)]
        show svp P (if b = 0 then _ else _) = _
        rw [if_neg (of_decide_eq_false hb)]
        rfl
    | rem =>
      cases hb : decide (b = 0) with
      | true => simp only [hb, cond_true] at h; cases h
      | false =>
        simp only [hb, cond_false] at h
        obtain rfl := Option.some.inj h
        show svp P (if k ≠ k then Go.stuck _ else _) = _
        rw [if_neg (by simp)]
        show svp P (if b = 0 then _ else _) = _
        rw [if_neg (of_decide_eq_false hb)]
        rfl
    | _ => cases h
  · cases h
theorem evX_eq [Ltr] [Orc] {f : List Value} {o : Oper} {H : RW} {r : Next × RW} (h : evX P base f o H = some r) : evM P base (ev f) o H = some r := by
  unfold evX slowX at h
  cases ho : o.op with
  | move x => simp only [ho] at h; refine evM_of ?_; unfold evAll evOp; simp only [ho]; exact h
  | assign x => simp only [ho] at h; refine evM_of ?_; unfold evAll evOp; simp only [ho]; exact h
  | binOp op t x y t' =>
    simp only [ho] at h
    cases hb : binX op (ev f x) (ev f y) with
    | none => rw [hb] at h; exact h
    | some v =>
      rw [hb] at h
      obtain rfl := Option.some.inj h
      obtain ⟨h1, h2, h3⟩ := binX_flat hb
      have f2 : ∀ {u : Value}, flat u = true → fl2 u = true := by
        intro u hu
        unfold fl2
        split
        · cases hu
        · exact hu
      have hs := binX_run (P := P) ho hb
      have : evOp P base (ev f) o H = some (.value v, H) := by
        unfold evOp
        simp only [ho]
        rw [f2 h1, f2 h2]
        show flatc P (ev f) o H = _
        unfold flatc
        have hall : (o.op.operands.toList.all fun x => fl2 (ev f x)) = true := by rw [ho]; simp [Op.operands, f2 h1, f2 h2]
        rw [hall, hs]
        show (bif flat v then some (Next.value v, H) else none) = _
        rw [h3]
        rfl
      refine evM_of ?_
      unfold evAll
      rw [this]
  | pick c a b =>
    simp only [ho] at h
    refine evM_of ?_
    unfold evAll evOp
    simp only [ho]
    unfold pickX at h
    split at h
    · rename_i t hc
      rw [hc]
      exact h
    · cases h
  | extract x i =>
    simp only [ho] at h
    refine evM_of ?_
    unfold evAll evOp
    simp only [ho, execOp]
    unfold extX at h
    split at h
    · rename_i vs hx
      cases hv : vs[i]? with
      | none => rw [hv] at h; cases h
      | some v =>
        rw [hv] at h
        obtain rfl := Option.some.inj h
        have : sv P base (do Pure.pure (Next.value (← Instr.extract (ev f x) i)) : Sem Next) H = some (.value v, H) := by
          rw [hx]
          show sv P base (Sem.bind (match vs[i]? with | some v => Pure.pure v | none => Go.stuck _) _) H = _
          rw [hv]
          rfl
        rw [this]
    · cases h
  | load t x =>
    simp only [ho] at h
    cases hl : loadX P t (ev f x) H with
    | none => rw [hl] at h; exact h
    | some v =>
      rw [hl] at h
      obtain rfl := Option.some.inj h
      refine evM_of ?_
      unfold evAll evOp
      simp only [ho, execOp]
      unfold loadX at hl
      split at hl
      · rename_i a hg hx
        have : sv P base (do Pure.pure (Next.value (← Instr.loadAt t (ev f x))) : Sem Next) H = some (.value v, H) := by
          rw [hx]
          show sv P base (Sem.bind (Sem.bind (Go.isAgg t) _) _) H = _
          rw [sv_bind, sv_bind, svp_sv H hg]
          show (sv P base (Go.load a) H).bind _ = _
          simp only [Go.load, sv, hl]
          rfl
        rw [this]
      · cases hl
  | indexAddr t x y =>
    simp only [ho] at h
    cases hl : indX P t (ev f x) (ev f y) with
    | none => rw [hl] at h; exact h
    | some v =>
      rw [hl] at h
      obtain rfl := Option.some.inj h
      refine evM_of ?_
      unfold evAll evOp
      simp only [ho, execOp]
      unfold indX at hl
      split at hl
      · rename_i el a n c k i hu hx hy
        split at hl
        · rename_i sz hs
          have hh := cond_some hl
          clear hl
          obtain ⟨hc, hl⟩ := hh
          simp only [Bool.and_eq_true, decide_eq_true_eq] at hc
          obtain rfl := Option.some.inj hl
          have : sv P base (do Pure.pure (Next.value (← Instr.indexAt t (ev f x) (ev f y))) : Sem Next) H = some (.value (.pointer (some (a.add (i.toNat * sz)))), H) := by
            rw [hx, hy]
            show sv P base (Sem.bind (Sem.bind (Go.underlying t) _) _) H = _
            rw [sv_bind, sv_bind, svp_sv H hu]
            show (sv P base (Sem.bind (Go.underlying t) _) H).bind _ = _
            rw [sv_bind, svp_sv H hu]
            show (sv P base (if 0 ≤ i ∧ i < (n : Int) then _ else _) H).bind _ = _
            rw [if_pos hc]
            show (sv P base (Sem.bind (Go.sizeOf el) _) H).bind _ = _
            rw [sv_bind, svp_sv H hs]
            rfl
          rw [this]
        · cases hl
      · cases hl
  | _ => simp only [ho] at h; exact h
/-- the operations of a region, by the shorter way -/
def evOpsF [Orc] (P : Program) (G base : Nat) (call : Caller) (yld : Rounder) (ops : Array Oper) : List Oper → St → Option St
  | [], s => some s
  | o :: rest, s => bif gdOk ops o s.f then bif Region.wanted o (yielded ops ⟨s.f⟩) then bif okO G o then match isYield s.f o with
        | some (l, args) => match yld l args s.H with
          | some (v, H1) => evOpsF P G base call yld ops rest ⟨pt o.dst v s.f, H1, s.ds⟩
          | none => none
        | none => match Orc.f o.op (ev s.f) with
          | some v => evOpsF P G base call yld ops rest ⟨pt o.dst v s.f, s.H, s.ds⟩
          | none => match evX P base s.f o s.H with
          | some (.value v, H1) => evOpsF P G base call yld ops rest ⟨pt o.dst v s.f, H1, s.ds⟩
          | some (.skip, H1) => evOpsF P G base call yld ops rest ⟨pt o.dst undef s.f, H1, s.ds⟩
          | some (.enter f args, H1) => match call f args.toList H1 with
            | some (v, H2) => evOpsF P G base call yld ops rest ⟨pt o.dst v s.f, H2, s.ds⟩
            | none => none
          | _ => none
      else none
    else evOpsF P G base call yld ops rest ⟨pt o.dst undef s.f, s.H, s.ds⟩
    else none
theorem evOpsF_eq [Ltr] [Orc] {call : Caller} {yld : Rounder} {ops : Array Oper} : ∀ (l : List Oper) (k : Nat) {s s1 : St}, (∀ j o, l[j]? = some o → ops[k + j]? = some o) → evOpsF P G base call yld ops l s = some s1 → evOps P G base call yld ops (List.range' k l.length) s = some s1
  | [], k, s, s1, _, e => e
  | o :: rest, k, s, s1, hl, e => by
    have ho : ops[k]? = some o := by simpa using hl 0 o rfl
    have ih := fun {s' : St} (e' : evOpsF P G base call yld ops rest s' = some s1) => evOpsF_eq rest (k + 1) (s := s') (fun j o' hj => by have := hl (j + 1) o' (by simpa using hj); rwa [show k + (j + 1) = k + 1 + j by omega] at this) e'
    rw [List.length_cons, List.range'_succ]
    unfold evOpsF at e
    unfold evOps
    rw [ho]
    dsimp only
    obtain ⟨hgd, e⟩ := cond_some e
    rw [hgd]
    dsimp only [cond_true]
    cases hw : Region.wanted o (yielded ops ⟨s.f⟩) with
    | false => rw [hw] at e; exact ih e
    | true =>
      rw [hw] at e
      dsimp only [cond_true] at e ⊢
      obtain ⟨hk, e⟩ := cond_some e
      rw [okO_all hk]
      dsimp only [cond_true]
      cases hy : isYield s.f o with
      | some la =>
        obtain ⟨l, args⟩ := la
        rw [hy] at e
        dsimp only at e ⊢
        cases hyr : yld l args s.H with
        | none => rw [hyr] at e; cases e
        | some p => rw [hyr] at e; exact ih e
      | none =>
        rw [hy] at e
        dsimp only at e ⊢
        cases hoc : Orc.f o.op (ev s.f) with
        | some v => rw [hoc] at e; exact ih e
        | none =>
        rw [hoc] at e
        dsimp only at e ⊢
        cases hv : evX P base s.f o s.H with
        | none => rw [hv] at e; cases e
        | some p =>
          rw [evX_eq hv]
          rw [hv] at e
          obtain ⟨nx, H1⟩ := p
          cases nx with
          | value v => exact ih e
          | skip => exact ih e
          | enter f args =>
            dsimp only at e ⊢
            cases hc : call f args.toList H1 with
            | none => rw [hc] at e; cases e
            | some q => rw [hc] at e; exact ih e
          | _ => cases e
end
end Go.Proofs.YtnggajehngemmaaGreatDoor
/-
  A run by reckoning, code, calls.
-/
namespace Go.Proofs.YtnggajehngemmaaGreatDoor
open Go Go.RowKit
def loopEv (r : St → Option (Exit × St)) : Nat → St → Option (Exit × St)
  | 0, _ => none
  | m + 1, s => match r s with
    | some (.normal, s1) => loopEv r m s1
    | x => x
def ldv (P : Program) (H : RW) (t : TypeId) (i o : Nat) : Option Value :=
  match svp P (Go.isAgg t), svp P (Go.sizeOf t) with
  | some true, some n => match cellsOf H i o n with
    | some vs => some (.agg ⟨vs⟩)
    | none => none
  | some false, _ => H.cell ⟨i, o, none⟩
  | _, _ => none
def resV (P : Program) (H : RW) (f : List Value) : List ResultVar → Option (List Value)
  | [] => some []
  | .tmp t :: l => match resV P H f l with
    | some vs => some (slot f t :: vs)
    | none => none
  | .cell a t :: l => match slot f a, resV P H f l with
    | .pointer (some ⟨i, o, none⟩), some vs => match ldv P H t i o with
      | some v => some (v :: vs)
      | none => none
    | _, _ => none
def oneV : List Value → Value
  | [v] => v
  | l => .tuple ⟨l⟩
/-- flat, or some flat things -/
def fl3 (v : Value) : Bool :=
  match v with
  | .tuple ⟨l⟩ => l.all flat
  | v => flat v
/-- calls whose contract is known: a flat answer, or some, memory as it was but for new blocks -/
abbrev Prim := FuncId → List Value → RW → Option (Value × RW)
/-- a call with a flat answer that has left all as it was, new blocks apart: nobody knows of these -/
def gcCall (call : Caller) : Caller := fun f args H => match call f args H with
  | some (v, H1) => bif fl3 v && eqH (H1.h.drop (H1.h.length - H.h.length)) H.h && (H1.h.take (H1.h.length - H.h.length)).all (fun p => Nat.ble H.n p.1) then some (v, H) else some (v, H1)
  | none => none
def RW.re (H : RW) (i : Nat) (o : Ob) : RW := ⟨H.n, upd i o H.h⟩
/-- the marks' blocks, shut -/
def takeAll (base : Nat) : List Nat → RW → Option RW
  | [], H => some H
  | i :: ds, H => match look i H.h with
    | some .df => bif Nat.ble base i then takeAll base ds (H.re i .gone) else none
    | _ => none
def callEv (P : Program) (pr : Prim) (base : Nat) (r : Code → St → Option (Exit × St)) (f : FuncId) (args : List Value) (H : RW) : Option (Value × RW) :=
  match pr f args H with
  | some p => some p
  | none => match P.funcs[f]? with
  | some fn => match fn.body with
    | some c => match r c ⟨args ++ List.replicate (fn.ntmps - args.length) undef, H, []⟩ with
      | some (x, s) => bif (match x with | .normal => true | .ret => true | _ => false) then match takeAll base s.ds s.H with
          | some H2 => (resV P H2 s.f fn.results.toList).map fun l => (oneV l, H2)
          | none => none
        else none
      | none => none
    | none => none
  | none => none
def setp : List Value → List Tmp → List Value → List Value
  | f, t :: ts, v :: vs => setp (f.set t v) ts vs
  | f, _, _ => f
def jumpOf : Exit → Option (Option Code)
  | .normal => some none
  | .ret => some (some .ret)
  | .exit id => some (some (.exit id))
  | _ => none
def roundEv (base : Nat) (r : Code → St → Option (Exit × St)) : Rounder := fun l args H =>
  match look l H.h with
  | some (.lp .ready _ ts ps as bd) => bif Nat.ble base l && Nat.beq args.length ps.size then
      match r as ⟨setp ts ps.toList args, H, []⟩ with
      | some (.normal, s1) => match look l s1.H.h with
        | some (.lp .ready pd1 ts1 ps1 as1 bd1) => match r bd ⟨s1.f, s1.H.re l (.lp .busy pd1 ts1 ps1 as1 bd1), s1.ds⟩ with
          | some (e, s2) => match look l s2.H.h, jumpOf e with
            | some (.lp _ _ ts2 ps2 as2 bd2), some j => some (.bool j.isNone, s2.H.re l (.lp (if j.isNone then .ready else .done) j ts2 ps2 as2 bd2))
            | _, _ => none
          | none => none
        | _ => none
      | _ => none
    else none
  | _ => none
/-- behind the function that was ranged over: how it goes on -/
def goOn : Option Code → Option Exit
  | none => some .normal
  | some .ret => some .ret
  | some (.exit id) => some (.exit id)
  | _ => none
def isBusy : LoopState → Bool
  | .busy => true
  | _ => false
def rangeEv (P : Program) (G : Nat) (call : Caller) (g : Operand) (ps : Array Tmp) (as bd : Code) (s : St) : Option (Exit × St) :=
  match okC G g, ev s.f g with
  | true, .func (.func f) ⟨first⟩ ⟨captured⟩ => bif callOk P f then
      match call f (first ++ [.func (.yield (s.H.n + 1)) ⟨[]⟩ ⟨[]⟩] ++ captured) ((s.H.push .df).push (.lp .ready none s.f ps as bd)) with
      | some (_, H2) => match look (s.H.n + 1) H2.h with
        | some (.lp st pd ts ps2 as2 bd2) => bif isBusy st then none else match goOn pd with
          | some x => some (x, ⟨s.f, H2.re (s.H.n + 1) (.lp .exhausted pd ts ps2 as2 bd2), s.H.n :: s.ds⟩)
          | none => none
        | _ => none
      | none => none
    else none
  | _, _ => none
def codeEv [Orc] (P : Program) (pr : Prim) (G base : Nat) : Nat → Bool → Code → St → Option (Exit × St)
  | 0, _, _, _ => none
  | n + 1, rd, c, s => match c with
    | .skip => some (.normal, s)
    | .label _ => some (.normal, s)
    | .ret => some (.ret, s)
    | .exit id => some (.exit id, s)
    | .seq a b => match codeEv P pr G base n rd a s with
      | some (.normal, s1) => codeEv P pr G base n rd b s1
      | x => x
    | .cond x a b => match okC G x, ev s.f x with
      | true, .bool t => codeEv P pr G base n rd (bif t then a else b) s
      | _, _ => none
    | .block id b => match codeEv P pr G base n rd b s with
      | some (.exit j, s1) => some (bif Nat.beq j id then .normal else .exit j, s1)
      | x => x
    | .loop b => match Orc.c (.loop b) s with
      | some y => some y
      | none => loopEv (codeEv P pr G base n rd b) n s
    | .region _ ops false => match evOpsF P G base (callEv P pr base (codeEv P pr G base n false)) (roundEv base (codeEv P pr G base n true)) ops ops.toList s with
      | some s1 => some (.normal, s1)
      | none => none
    | .region _ ops true => match drawEv P G base (gcCall (callEv P pr base (codeEv P pr G base n false))) ops s with
      | some s1 => some (.normal, s1)
      | none => none
    | .rangeFunc g ps as bd => bif rd then none else rangeEv P G (callEv P pr base (codeEv P pr G base n false)) g ps as bd s
    | _ => none
end Go.Proofs.YtnggajehngemmaaGreatDoor
