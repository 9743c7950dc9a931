/-
  A run by reckoning, more operations: append, make, bytes as a text.
-/
import Derived.Test.YtkhmbphcjacgnaaGreatDoorEv6
import Derived.ArgAppend
import Derived.Laws.MakeOwn
import Derived.Laws.BytesString
namespace Go.Proofs.YtkhmbphcjacgnaaGreatDoor
open Go Go.RowKit
def cellsOf (H : RW) (i : Nat) : Nat → Nat → Option (List Value)
  | _, 0 => some []
  | o, k + 1 => match H.cell ⟨i, o, none⟩, cellsOf H i (o + 1) k with
    | some v, some l => some (v :: l)
    | _, _ => none
def RW.kill (H : RW) (i : Nat) : RW := ⟨H.n, upd i .gone H.h⟩
section
variable {P : Program} {X : Kep} {base : Nat} {E : Ren} {H : RW} {w w' : World}
theorem cellsOf_rel [Ltr] (R : Rep X base E H w) {i b k : Nat} (e : E i = some (b, k)) : ∀ (n o : Nat) {vs : List Value}, cellsOf H i o n = some vs →
    ∃ vs', RelL E vs vs' ∧ vs.length = n ∧ ∀ j u, vs'[j]? = some u → w.cell? ⟨b, o + j, none⟩ = some u
  | 0, o, vs, h => by
    obtain rfl := Option.some.inj h
    exact ⟨[], .nil, rfl, fun j u hj => by simp at hj⟩
  | n + 1, o, vs, h => by
    unfold cellsOf at h
    cases hc : H.cell ⟨i, o, none⟩ with
    | none => rw [hc] at h; cases h
    | some v =>
      cases hl : cellsOf H i (o + 1) n with
      | none => rw [hc, hl] at h; cases h
      | some l =>
        rw [hc, hl] at h
        obtain rfl := Option.some.inj h
        obtain ⟨v', hv, rv⟩ := R.cell e hc
        obtain ⟨l', rl, hlen, hl'⟩ := cellsOf_rel R e n (o + 1) hl
        refine ⟨v' :: l', .cons rv rl, by simp [hlen], fun j u hj => ?_⟩
        cases j with
        | zero => obtain rfl : v' = u := by simpa using hj
                  exact hv
        | succ j =>
          have := hl' j u (by simpa using hj)
          rwa [show o + 1 + j = o + (j + 1) by omega] at this
theorem Rep.kill [Ltr] (R : Rep X base E H w) {i : Nat} {o : Ob} (hl : look i H.h = some o) : Rep X base E (H.kill i) w := by
  have part : ∀ {j : Nat} {oj : Ob}, look j (H.kill i).h = some oj → oj.live = true → look j H.h = some oj ∧ j ≠ i := by
    intro j oj hj lj
    by_cases hji : j = i
    · subst hji
      have : look j (upd j .gone H.h) = some .gone := look_upd hl
      unfold RW.kill at hj
      rw [this] at hj
      obtain rfl := Option.some.inj hj
      cases lj
    · exact ⟨by rwa [RW.kill, look_upd_ne hji] at hj, hji⟩
  refine ⟨R.dom, ?_, ?_, R.new, R.lt, R.bn, R.fx⟩
  · intro j oj hj
    by_cases hji : j = i
    · subst hji
      have : look j (upd j .gone H.h) = some .gone := look_upd hl
      unfold RW.kill at hj
      rw [this] at hj
      obtain rfl := Option.some.inj hj
      obtain ⟨b, k, e, _⟩ := R.ok j o hl
      exact ⟨b, k, e, trivial⟩
    · rw [RW.kill, look_upd_ne hji] at hj
      exact R.ok j oj hj
  · intro j j' oj oj' b k k' hj lj hj' lj' e e'
    exact R.inj j j' oj oj' b k k' (part hj lj).1 lj (part hj' lj').1 lj' e e'
theorem Ok.at [Ltr] {k : Nat} {o : Ob} {x y : Option Obj} (h : Ok E k o x) (e : o.live = true → y = x) : Ok E k o y := by
  cases o with
  | gone => trivial
  | _ => rw [e rfl]; exact h
theorem Ok.lt [Ltr] {k b : Nat} {o : Ob} (h : Ok E k o w.heap[b]?) (l : o.live = true) : b < w.heap.size := by
  cases o with
  | gone => cases l
  | ro vs => obtain ⟨c, t, fz, ex, _⟩ := h; exact (Array.getElem?_eq_some_iff.1 ex).1
  | row vs t => obtain ⟨xs, ex, _⟩ := h; exact (Array.getElem?_eq_some_iff.1 ex).1
  | own vs t sz => obtain ⟨xs, ys, ex, _⟩ := h; exact (Array.getElem?_eq_some_iff.1 ex).1
  | mp es c => obtain ⟨es', ex, _⟩ := h; exact (Array.getElem?_eq_some_iff.1 ex).1
  | lp st pd ts ps as bd => obtain ⟨fn, xs, db, ex, _⟩ := h; exact (Array.getElem?_eq_some_iff.1 ex).1
  | df => have ex : w.heap[b]? = some (.deferred (some [])) := h; exact (Array.getElem?_eq_some_iff.1 ex).1
  | it s p => have ex : w.heap[b]? = some (.stringIter s p) := h; exact (Array.getElem?_eq_some_iff.1 ex).1
  | opq i => obtain ⟨y, ex, _⟩ := h; exact (Array.getElem?_eq_some_iff.1 ex).1
/-- a new name for a row that has grown -/
theorem Rep.grown [Ltr] (R : Rep X base E H w) {row : Option Nat} (hg : w.grownBy w' row) (hrow : ∀ k, row = some k → ¬ X k ∧ ∀ i o b kk, look i H.h = some o → o.live = true → E i = some (b, kk) → b ≠ k)
    {g k : Nat} (hnew : w.heap.size ≤ g ∨ row = some g) {o : Ob} (hok : ∀ F, Ext E F → Ok F k o w'.heap[g]?) :
    Rep X base (E.new H.n g k) (H.push o) w' ∧ Ext E (E.new H.n g k) ∧ Kp X w w' := by
  have hx := Ren.ext (b := g) (k := k) (R.dom H.n (Nat.le_refl _))
  have hB : ¬ X g := by
    rcases hnew with h | h
    · exact fun hx => absurd (R.lt g hx) (by omega)
    · exact (hrow g h).1
  have keep : ∀ {i : Nat} {o' : Ob} {b kk : Nat}, look i H.h = some o' → o'.live = true → E i = some (b, kk) → w'.heap[b]? = w.heap[b]? ∧ b ≠ g := by
    intro i o' b kk hi hl e
    obtain ⟨b2, k2, e2, h2⟩ := R.ok i o' hi
    rw [e] at e2; obtain ⟨rfl, rfl⟩ := Prod.mk.inj (Option.some.inj e2)
    have hlt := h2.lt hl
    have hne : some b ≠ row := fun h => (hrow b h.symm).2 i o' b kk hi hl e rfl
    refine ⟨hg.block b hlt hne, ?_⟩
    rcases hnew with h | h
    · omega
    · exact fun h' => hne (h' ▸ h.symm)
  have part : ∀ {i : Nat} {o' : Ob}, look i (H.push o).h = some o' → (i = H.n ∧ o' = o) ∨ (i ≠ H.n ∧ look i H.h = some o') := by
    intro i o' hi
    unfold RW.push look at hi
    cases hb : Nat.beq i H.n with
    | true => rw [hb] at hi; exact .inl ⟨Nat.eq_of_beq_eq_true hb, (Option.some.inj hi).symm⟩
    | false => rw [hb] at hi; exact .inr ⟨fun h => (by rw [h, Nat.beq_refl] at hb; cases hb), hi⟩
  have ren : ∀ {i b kk : Nat}, (E.new H.n g k) i = some (b, kk) → (i = H.n ∧ b = g) ∨ (i ≠ H.n ∧ E i = some (b, kk)) := by
    intro i b kk e
    unfold Ren.new at e
    cases hb : Nat.beq i H.n with
    | true => rw [hb] at e; exact .inl ⟨Nat.eq_of_beq_eq_true hb, (Prod.mk.inj (Option.some.inj e)).1.symm⟩
    | false => rw [hb] at e; exact .inr ⟨fun h => (by rw [h, Nat.beq_refl] at hb; cases hb), e⟩
  refine ⟨⟨?_, ?_, ?_, ?_, ?_, ?_, ?_⟩, hx, ⟨hg.os, hg.tape, hg.output, hg.size, ?_⟩⟩
  · intro i hi
    have hi' : H.n + 1 ≤ i := hi
    unfold Ren.new
    have hb : Nat.beq i H.n = false := by
      cases hb : Nat.beq i H.n with
      | true => have := Nat.eq_of_beq_eq_true hb; omega
      | false => rfl
    rw [hb]
    exact R.dom i (by omega)
  · intro i o' hi
    rcases part hi with ⟨rfl, rfl⟩ | ⟨_, hi'⟩
    · exact ⟨g, k, Ren.at, hok _ hx⟩
    · obtain ⟨b, kk, e, h'⟩ := R.ok i o' hi'
      exact ⟨b, kk, hx _ _ e, Ok.mono hx (h'.at fun l => (keep hi' l e).1)⟩
  · intro i j oi oj b k1 k2 hi li hj lj e1 e2
    rcases part hi with ⟨p, _⟩ | ⟨p, hi'⟩ <;> rcases part hj with ⟨q, _⟩ | ⟨q, hj'⟩
    · rw [p, q]
    · rcases ren e1 with ⟨_, rfl⟩ | ⟨h, _⟩
      · rcases ren e2 with ⟨h, _⟩ | ⟨_, e2'⟩
        · exact absurd h q
        · exact absurd rfl (keep hj' lj e2').2
      · exact absurd p h
    · rcases ren e2 with ⟨_, rfl⟩ | ⟨h, _⟩
      · rcases ren e1 with ⟨h, _⟩ | ⟨_, e1'⟩
        · exact absurd h p
        · exact absurd rfl (keep hi' li e1').2
      · exact absurd q h
    · rcases ren e1 with ⟨h, _⟩ | ⟨_, e1'⟩
      · exact absurd h p
      · rcases ren e2 with ⟨h, _⟩ | ⟨_, e2'⟩
        · exact absurd h q
        · exact R.inj i j oi oj b k1 k2 hi' li hj' lj e1' e2'
  · intro i b kk hi e
    rcases ren e with ⟨_, rfl⟩ | ⟨_, e'⟩
    · exact hB
    · exact R.new i b kk hi e'
  · exact fun b hb => Nat.lt_of_lt_of_le (R.lt b hb) hg.size
  · have := R.bn; simp [RW.push]; omega
  · intro j hj
    exact (hg.block j (R.lt j hj) fun h => (hrow j h.symm).1 hj).trans (R.fx j hj)
  · intro j hj
    exact hg.block j (R.lt j hj) fun h => (hrow j h.symm).1 hj
end
end Go.Proofs.YtkhmbphcjacgnaaGreatDoor
