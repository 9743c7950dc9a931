/-
  A run by reckoning, more operations: append, make, bytes as a text.
-/
import Derived.Test.YtjfchpfbpmediaaGreatDoorEv6
import Derived.ArgAppend
import Derived.Laws.MakeOwn
import Derived.Laws.BytesString
namespace Go.Proofs.YtjfchpfbpmediaaGreatDoor
open Go Go.RowKit
def cellsOf (H : RW) (i : Nat) : Nat → Nat → Option (List Value)
  | _, 0 => some []
  | o, k + 1 => match H.cell ⟨i, o, none⟩, cellsOf H i (o + 1) k with
    | some v, some l => some (v :: l)
    | _, _ => none
def RW.kill (H : RW) (i : Nat) : RW := ⟨H.n, upd i .gone H.h⟩
section
variable {P : Program} {X : Kep} {base : Nat} {E : Ren} {H : RW} {w w' : World}
theorem cellsOf_rel [Ltr] (R : Rep X base E H w) {i b k : Nat} (e : E i = some (b, k)) : ∀ (n o : Nat) {vs : List Value}, cellsOf H i o n = some vs →
    ∃ vs', RelL E vs vs' ∧ vs.length = n ∧ ∀ j u, vs'[j]? = some u → w.cell? ⟨b, o + j, none⟩ = some u
  | 0, o, vs, h => by
    obtain rfl := Option.some.inj h
    exact ⟨[], .nil, rfl, fun j u hj => by simp at hj⟩
  | n + 1, o, vs, h => by
    unfold cellsOf at h
    cases hc : H.cell ⟨i, o, none⟩ with
    | none => rw [hc] at h; cases h
    | some v =>
      cases hl : cellsOf H i (o + 1) n with
      | none => rw [hc, hl] at h; cases h
      | some l =>
        rw [hc, hl] at h
        obtain rfl := Option.some.inj h
        obtain ⟨v', hv, rv⟩ := R.cell e hc
        obtain ⟨l', rl, hlen, hl'⟩ := cellsOf_rel R e n (o + 1) hl
        refine ⟨v' :: l', .cons rv rl, by simp [hlen], fun j u hj => ?_⟩
        cases j with
        | zero => obtain rfl : v' = u := by simpa using hj
                  exact hv
        | succ j =>
          have := hl' j u (by simpa using hj)
          rwa [show o + 1 + j = o + (j + 1) by omega] at this
theorem Rep.kill [Ltr] (R : Rep X base E H w) {i : Nat} {o : Ob} (hl : look i H.h = some o) : Rep X base E (H.kill i) w := by
  have part : ∀ {j : Nat} {oj : Ob}, look j (H.kill i).h = some oj → oj.live = true → look j H.h = some oj ∧ j ≠ i := by
    intro j oj hj lj
    by_cases hji : j = i
    · subst hji
      have : look j (upd j .gone H.h) = some .gone := look_upd hl
      unfold RW.kill at hj
      rw [this] at hj
      obtain rfl := Option.some.inj hj
      cases lj
    · exact ⟨by rwa [RW.kill, look_upd_ne hji] at hj, hji⟩
  refine ⟨R.dom, ?_, ?_, R.new, R.lt, R.bn, R.fx⟩
  · intro j oj hj
    by_cases hji : j = i
    · subst hji
      have : look j (upd j .gone H.h) = some .gone := look_upd hl
      unfold RW.kill at hj
      rw [this] at hj
      obtain rfl := Option.some.inj hj
      obtain ⟨b, k, e, _⟩ := R.ok j o hl
      exact ⟨b, k, e, trivial⟩
    · rw [RW.kill, look_upd_ne hji] at hj
      exact R.ok j oj hj
  · intro j j' oj oj' b k k' hj lj hj' lj' e e'
    exact R.inj j j' oj oj' b k k' (part hj lj).1 lj (part hj' lj').1 lj' e e'
theorem Ok.at [Ltr] {k : Nat} {o : Ob} {x y : Option Obj} (h : Ok E k o x) (e : o.live = true → y = x) : Ok E k o y := by
  cases o with
  | gone => trivial
  | _ => rw [e rfl]; exact h
theorem Ok.lt [Ltr] {k b : Nat} {o : Ob} (h : Ok E k o w.heap[b]?) (l : o.live = true) : b < w.heap.size := by
  cases o with
  | gone => cases l
  | ro vs => obtain ⟨c, t, fz, ex, _⟩ := h; exact (Array.getElem?_eq_some_iff.1 ex).1
  | row vs t => obtain ⟨xs, ex, _⟩ := h; exact (Array.getElem?_eq_some_iff.1 ex).1
  | own vs t sz => obtain ⟨xs, ys, ex, _⟩ := h; exact (Array.getElem?_eq_some_iff.1 ex).1
  | mp es c => obtain ⟨es', ex, _⟩ := h; exact (Array.getElem?_eq_some_iff.1 ex).1
  | lp st pd ts ps as bd => obtain ⟨fn, xs, db, ex, _⟩ := h; exact (Array.getElem?_eq_some_iff.1 ex).1
  | df => have ex : w.heap[b]? = some (.deferred (some [])) := h; exact (Array.getElem?_eq_some_iff.1 ex).1
  | it s p => have ex : w.heap[b]? = some (.stringIter s p) := h; exact (Array.getElem?_eq_some_iff.1 ex).1
  | opq i => obtain ⟨y, ex, _⟩ := h; exact (Array.getElem?_eq_some_iff.1 ex).1
/-- a new name for a row that has grown -/
theorem Rep.grown [Ltr] (R : Rep X base E H w) {row : Option Nat} (hg : w.grownBy w' row) (hrow : ∀ k, row = some k → ¬ X k ∧ ∀ i o b kk, look i H.h = some o → o.live = true → E i = some (b, kk) → b ≠ k)
    {g k : Nat} (hnew : w.heap.size ≤ g ∨ row = some g) {o : Ob} (hok : ∀ F, Ext E F → Ok F k o w'.heap[g]?) :
    Rep X base (E.new H.n g k) (H.push o) w' ∧ Ext E (E.new H.n g k) ∧ Kp X w w' := by
  have hx := Ren.ext (b := g) (k := k) (R.dom H.n (Nat.le_refl _))
  have hB : ¬ X g := by
    rcases hnew with h | h
    · exact fun hx => absurd (R.lt g hx) (by omega)
    · exact (hrow g h).1
  have keep : ∀ {i : Nat} {o' : Ob} {b kk : Nat}, look i H.h = some o' → o'.live = true → E i = some (b, kk) → w'.heap[b]? = w.heap[b]? ∧ b ≠ g := by
    intro i o' b kk hi hl e
    obtain ⟨b2, k2, e2, h2⟩ := R.ok i o' hi
    rw [e] at e2; obtain ⟨rfl, rfl⟩ := Prod.mk.inj (Option.some.inj e2)
    have hlt := h2.lt hl
    have hne : some b ≠ row := fun h => (hrow b h.symm).2 i o' b kk hi hl e rfl
    refine ⟨hg.block b hlt hne, ?_⟩
    rcases hnew with h | h
    · omega
    · exact fun h' => hne (h' ▸ h.symm)
  have part : ∀ {i : Nat} {o' : Ob}, look i (H.push o).h = some o' → (i = H.n ∧ o' = o) ∨ (i ≠ H.n ∧ look i H.h = some o') := by
    intro i o' hi
    unfold RW.push look at hi
    cases hb : Nat.beq i H.n with
    | true => rw [hb] at hi; exact .inl ⟨Nat.eq_of_beq_eq_true hb, (Option.some.inj hi).symm⟩
    | false => rw [hb] at hi; exact .inr ⟨fun h => (by rw [h, Nat.beq_refl] at hb; cases hb), hi⟩
  have ren : ∀ {i b kk : Nat}, (E.new H.n g k) i = some (b, kk) → (i = H.n ∧ b = g) ∨ (i ≠ H.n ∧ E i = some (b, kk)) := by
    intro i b kk e
    unfold Ren.new at e
    cases hb : Nat.beq i H.n with
    | true => rw [hb] at e; exact .inl ⟨Nat.eq_of_beq_eq_true hb, (Prod.mk.inj (Option.some.inj e)).1.symm⟩
    | false => rw [hb] at e; exact .inr ⟨fun h => (by rw [h, Nat.beq_refl] at hb; cases hb), e⟩
  refine ⟨⟨?_, ?_, ?_, ?_, ?_, ?_, ?_⟩, hx, ⟨hg.os, hg.tape, hg.output, hg.size, ?_⟩⟩
  · intro i hi
    have hi' : H.n + 1 ≤ i := hi
    unfold Ren.new
    have hb : Nat.beq i H.n = false := by
      cases hb : Nat.beq i H.n with
      | true => have := Nat.eq_of_beq_eq_true hb; omega
      | false => rfl
    rw [hb]
    exact R.dom i (by omega)
  · intro i o' hi
    rcases part hi with ⟨rfl, rfl⟩ | ⟨_, hi'⟩
    · exact ⟨g, k, Ren.at, hok _ hx⟩
    · obtain ⟨b, kk, e, h'⟩ := R.ok i o' hi'
      exact ⟨b, kk, hx _ _ e, Ok.mono hx (h'.at fun l => (keep hi' l e).1)⟩
  · intro i j oi oj b k1 k2 hi li hj lj e1 e2
    rcases part hi with ⟨p, _⟩ | ⟨p, hi'⟩ <;> rcases part hj with ⟨q, _⟩ | ⟨q, hj'⟩
    · rw [p, q]
    · rcases ren e1 with ⟨_, rfl⟩ | ⟨h, _⟩
      · rcases ren e2 with ⟨h, _⟩ | ⟨_, e2'⟩
        · exact absurd h q
        · exact absurd rfl (keep hj' lj e2').2
      · exact absurd p h
    · rcases ren e2 with ⟨_, rfl⟩ | ⟨h, _⟩
      · rcases ren e1 with ⟨h, _⟩ | ⟨_, e1'⟩
        · exact absurd h p
        · exact absurd rfl (keep hi' li e1').2
      · exact absurd q h
    · rcases ren e1 with ⟨h, _⟩ | ⟨_, e1'⟩
      · exact absurd h p
      · rcases ren e2 with ⟨h, _⟩ | ⟨_, e2'⟩
        · exact absurd h q
        · exact R.inj i j oi oj b k1 k2 hi' li hj' lj e1' e2'
  · intro i b kk hi e
    rcases ren e with ⟨_, rfl⟩ | ⟨_, e'⟩
    · exact hB
    · exact R.new i b kk hi e'
  · exact fun b hb => Nat.lt_of_lt_of_le (R.lt b hb) hg.size
  · have := R.bn; simp [RW.push]; omega
  · intro j hj
    exact (hg.block j (R.lt j hj) fun h => (hrow j h.symm).1 hj).trans (R.fx j hj)
  · intro j hj
    exact hg.block j (R.lt j hj) fun h => (hrow j h.symm).1 hj
end
end Go.Proofs.YtjfchpfbpmediaaGreatDoor
/-
  A run by reckoning: append, make, bytes as a text.
-/
namespace Go.Proofs.YtjfchpfbpmediaaGreatDoor
open Go Go.RowKit
def apd (P : Program) (base : Nat) (H : RW) (t : TypeId) (x y : Value) : Option (Value × RW) :=
  match P.underlying t with
  | some (.slice e) => match P.info? e with
    | some i => match i.zero with
      | some z => bif Nat.blt 0 i.size && Nat.beq z.cells.size i.size then
          match y with
          | .slice (some ⟨j, oy, none⟩) m _ => bif Nat.blt 0 m && Nat.ble m 1000000 && Nat.ble i.bytes 10000 then
            match cellsOf H j oy (m * i.size) with
            | some news => bif news.all single then
                match x with
                | .slice none 0 0 => some (.slice (some ⟨H.n, 0, none⟩) m big, H.push (.own news e i.size))
                | .slice (some ⟨i0, ox, none⟩) n c => bif Nat.ble n 1000000 then
                    bif Nat.blt c big then bif Nat.blt c (n + m) then match cellsOf H i0 ox (n * i.size) with
                        | some olds => some (.slice (some ⟨H.n, 0, none⟩) (n + m) big, H.push (.own (olds ++ news) e i.size))
                        | none => none
                      else none
                    else bif Nat.beq c big && Nat.beq ox 0 && Nat.ble base i0 then match look i0 H.h with
                        | some (.own vs e' sz) => bif Nat.beq e' e && Nat.beq sz i.size && Nat.beq vs.length (n * i.size) then
                            some (.slice (some ⟨H.n, 0, none⟩) (n + m) big, (H.kill i0).push (.own (vs ++ news) e i.size)) else none
                        | _ => none
                      else none
                  else none
                | _ => none
              else none
            | none => none
            else none
          | _ => none
        else none
      | none => none
    | none => none
  | _ => none
section
variable {P : Program} {X : Kep} {base : Nat} {E : Ren} {H : RW} {w w' : World}
theorem room_big (k : Nat) : room big k = k := by
  have h : Nat.blt big big = false := by
    cases hb : Nat.blt big big with
    | true => exact absurd (Nat.le_of_ble_eq_true hb) (by omega)
    | false => rfl
  unfold room
  rw [h, cond_false, Nat.sub_self, Nat.sub_zero]
theorem ones [Ltr] {vs vs' : List Value} : RelL E vs vs' → vs.all single = true → ∀ u ∈ vs', u.oneCell' = true
  | .nil, _ => by simp
  | .cons h t, hs => by
    simp only [List.all_cons, Bool.and_eq_true] at hs
    intro u hu
    rcases List.mem_cons.1 hu with rfl | hu
    · obtain ⟨n1, n2⟩ := single_not h hs.1
      cases u with
      | agg c => exact absurd rfl (n1 c)
      | tuple c => exact absurd rfl (n2 c)
      | _ => rfl
    · exact ones t hs.2 u hu
/-- a row that is owned, as a name -/
theorem own_ok [Ltr] {b0 n sz : Nat} {e : TypeId} {v' : Value} {xs vs : List Value} (ho : w'.ownsRow b0 e sz v' n xs) (hn : 0 < n) (r : RelL E vs xs) :
    ∃ g cap, v' = .slice (some ⟨g, 0, none⟩) n cap ∧ b0 ≤ g ∧ n ≤ cap ∧ ∀ F, Ext E F → Ok F cap (.own vs e sz) w'.heap[g]? := by
  obtain ⟨hl, h | ⟨g, cap, cur, hv, hb, hh, h1, h2, h3, h4⟩⟩ := ho
  · omega
  · refine ⟨g, cap, hv, hb, h1, fun F x => ⟨xs, cur.toList.drop (n * sz), ?_, r.mono x, ?_, h2⟩⟩
    · rw [hh, ← h4, List.take_append_drop]
    · have : cur.toList.length = cap * sz := by simpa using h3
      have hle : n * sz ≤ cap * sz := Nat.mul_le_mul_right sz h1
      rw [List.length_drop, this, hl]
      omega
theorem rel_own [Ltr] {g cap n i : Nat} (h : E i = some (g, cap)) : Rel E (.slice (some ⟨i, 0, none⟩) n big) (.slice (some ⟨g, 0, none⟩) n cap) := by
  have := Rel.sl (o := 0) (n := n) (c := big) h
  rwa [room_big] at this
theorem apd_sound [Ltr] {t ty : TypeId} {x y x' y' v : Value} {H1 : RW} (R : Rep X base E H w) (hx : Rel E x x') (hy : Rel E y y') (e : apd P base H t x y = some (v, H1)) :
    ∃ F v' w', (Builtin.append_ #[t, t] ty #[x', y']).run P w = .ok v' w' ∧ Ext E F ∧ Rep X base F H1 w' ∧ Kp X w w' ∧ Rel F v v' := by
  unfold apd at e
  split at e
  · rename_i el hu
    split at e
    · rename_i i hi
      split at e
      · rename_i z hz
        cases hc : (Nat.blt 0 i.size && Nat.beq z.cells.size i.size) with
        | false => rw [hc] at e; cases e
        | true =>
          rw [hc] at e
          simp only [Bool.and_eq_true] at hc
          have hs0 : 0 < i.size := Nat.le_of_ble_eq_true hc.1
          have hzs : z.cells.size = i.size := Nat.eq_of_beq_eq_true hc.2
          dsimp only [cond_true] at e
          split at e
          · rename_i j oy m cy
            cases hm : (Nat.blt 0 m && Nat.ble m 1000000 && Nat.ble i.bytes 10000) with
            | false => rw [hm] at e; cases e
            | true =>
              rw [hm] at e
              simp only [Bool.and_eq_true] at hm
              have hm0 : 0 < m := Nat.le_of_ble_eq_true hm.1.1
              have hm1 := Nat.le_of_ble_eq_true hm.1.2
              have hby := Nat.le_of_ble_eq_true hm.2
              dsimp only [cond_true] at e
              split at e
              · rename_i news hnews
                cases hsg : news.all single with
                | false => rw [hsg] at e; cases e
                | true =>
                  rw [hsg] at e
                  dsimp only [cond_true] at e
                  have hbytes : ∀ n, n ≤ 1000000 → (n + m) * i.bytes ≤ 140737488355328 := fun n hn =>
                    Nat.le_trans (Nat.mul_le_mul (Nat.add_le_add hn hm1) hby) (by decide)
                  cases hy with
                  | same hf => cases hf
                  | @sl _ _ bj kj _ _ hEj =>
                    obtain ⟨news', rn, ln, cn⟩ := cellsOf_rel R hEj (m * i.size) oy hnews
                    have hl' : news'.length = m * i.size := by rw [rn.length, ln]
                    have hcell : ∀ k u, news'[k]? = some u → w.cell? ((⟨bj, oy, none⟩ : Addr).add k) = some u := fun k u hk => by rw [Addr.add_lit]; exact cn k u hk
                    have h1 := ones rn hsg
                    split at e
                    · -- nil
                      obtain rfl := hx.flat_eq rfl
                      obtain ⟨rfl, rfl⟩ := Prod.mk.inj (Option.some.inj e)
                      obtain ⟨v', w', hr, ho, hg, hiff⟩ := run_append_own (P := P) w w.heap.size t ty el i z i.size i.bytes hu hi hz rfl rfl hzs hs0 (.slice none 0 0) 0 [] (World.ownsRow_nil w _ _ _) ⟨bj, oy, none⟩ m (room cy kj) news' hl' hcell h1
                        (by unfold maxLen; omega) (hbytes 0 (by omega)) (Nat.le_refl _)
                      have hn0 : 0 < 0 + m := by omega
                      obtain ⟨g, cap, rfl, hb, _, hok⟩ := own_ok (E := E) (vs := news) ho hn0 (by simpa using rn)
                      obtain ⟨p1, p2, p3⟩ := R.grown hg (fun k h => by cases h) (.inl hb) hok
                      refine ⟨_, _, w', hr, p2, p1, p3, ?_⟩
                      rw [Nat.zero_add]
                      exact rel_own Ren.at
                    · rename_i i0 ox n c
                      cases hn : Nat.ble n 1000000 with
                      | false => rw [hn] at e; cases e
                      | true =>
                        rw [hn] at e
                        have hn1 := Nat.le_of_ble_eq_true hn
                        dsimp only [cond_true] at e
                        cases hx with
                        | same hf => cases hf
                        | @sl _ _ b0 k0 _ _ hE0 =>
                          cases hcb : Nat.blt c big with
                          | true =>
                            rw [hcb] at e
                            dsimp only [cond_true] at e
                            cases hcn : Nat.blt c (n + m) with
                            | false => rw [hcn] at e; cases e
                            | true =>
                              rw [hcn] at e
                              dsimp only [cond_true] at e
                              have hcn' : c < n + m := Nat.le_of_ble_eq_true hcn
                              split at e
                              · rename_i olds holds
                                obtain ⟨rfl, rfl⟩ := Prod.mk.inj (Option.some.inj e)
                                obtain ⟨olds', ro, lo, co⟩ := cellsOf_rel R hE0 (n * i.size) ox holds
                                obtain ⟨v', w', hr, ho, hg⟩ := run_append_arg_grows (P := P) w t ty el i z i.size i.bytes hu hi hz rfl rfl hzs hs0 ⟨b0, ox, none⟩ n (room c k0) olds' (by rw [ro.length, lo])
                                  (fun k u hk => by rw [Addr.add_lit]; exact co k u hk) ⟨bj, oy, none⟩ m (room cy kj) news' hl' hcell (by rw [room_known hcb]; exact hcn') (by unfold maxLen; omega) (hbytes n hn1)
                                have hn0 : 0 < n + m := by omega
                                obtain ⟨g, cap, rfl, hb, _, hok⟩ := own_ok (E := E) (vs := olds ++ news) ho hn0 (ro.append rn)
                                obtain ⟨p1, p2, p3⟩ := R.grown hg (fun k h => by cases h) (.inl hb) hok
                                exact ⟨_, _, w', hr, p2, p1, p3, rel_own Ren.at⟩
                              · cases e
                          | false =>
                            rw [hcb] at e
                            dsimp only [cond_false] at e
                            cases hq : (Nat.beq c big && Nat.beq ox 0 && Nat.ble base i0) with
                            | false => rw [hq] at e; cases e
                            | true =>
                              rw [hq] at e
                              simp only [Bool.and_eq_true] at hq
                              obtain rfl := Nat.eq_of_beq_eq_true hq.1.1
                              obtain rfl := Nat.eq_of_beq_eq_true hq.1.2
                              have hbi := Nat.le_of_ble_eq_true hq.2
                              dsimp only [cond_true] at e
                              split at e
                              · rename_i vs e' sz hlk
                                cases hv : (Nat.beq e' el && Nat.beq sz i.size && Nat.beq vs.length (n * i.size)) with
                                | false => rw [hv] at e; cases e
                                | true =>
                                  rw [hv] at e
                                  simp only [Bool.and_eq_true] at hv
                                  obtain rfl := Nat.eq_of_beq_eq_true hv.1.1
                                  obtain rfl := Nat.eq_of_beq_eq_true hv.1.2
                                  have hvl := Nat.eq_of_beq_eq_true hv.2
                                  obtain ⟨rfl, rfl⟩ := Prod.mk.inj (Option.some.inj e)
                                  obtain ⟨b2, k2, e2, xs, ys, hh, rx, hxy, hmx⟩ := R.ok i0 _ hlk
                                  rw [hE0] at e2
                                  obtain ⟨rfl, rfl⟩ := Prod.mk.inj (Option.some.inj e2)
                                  rw [room_big]
                                  have hxl : xs.length = n * i.size := by rw [rx.length, hvl]
                                  have hnk : n ≤ k0 := by
                                    have : n * i.size ≤ k0 * i.size := by omega
                                    exact Nat.le_of_mul_le_mul_right this hs0
                                  have Rk := R.kill hlk
                                  have hn0 : 0 < n + m := by omega
                                  have hother : ∀ i' o' b' kk, look i' (H.kill i0).h = some o' → o'.live = true → E i' = some (b', kk) → b' ≠ b0 := by
                                    intro i' o' b' kk hi' li e3 hb
                                    subst hb
                                    by_cases hii : i' = i0
                                    · subst hii
                                      have : look i' (upd i' .gone H.h) = some .gone := look_upd hlk
                                      rw [RW.kill, this] at hi'
                                      obtain rfl := Option.some.inj hi'
                                      cases li
                                    · rw [RW.kill, look_upd_ne hii] at hi'
                                      exact hii (R.inj i' i0 o' _ b' kk k0 hi' li hlk rfl e3 hE0)
                                  have own : w.ownsRow 0 e' i.size (.slice (some ⟨b0, 0, none⟩) n k0) n xs :=
                                    ⟨hxl, .inr ⟨b0, k0, ⟨xs ++ ys⟩, rfl, Nat.zero_le _, hh, hnk, hmx, by simpa using hxy, by simp [← hxl]⟩⟩
                                  by_cases hroom : n + m ≤ k0
                                  · obtain ⟨v', w', hr, ho, hg, -⟩ := run_append_own (P := P) w 0 t ty e' i z i.size i.bytes hu hi hz rfl rfl hzs hs0 _ n xs own ⟨bj, oy, none⟩ m (room cy kj) news' hl' hcell h1
                                      (by unfold maxLen; omega) (hbytes n hn1) (Nat.zero_le _)
                                    have hmul : (n + m) * i.size ≤ k0 * i.size := Nat.mul_le_mul_right _ hroom
                                    have hr2 := run_append_room_cells (P := P) w t ty e' i hu hi b0 0 n k0 ⟨bj, oy, none⟩ m (room cy kj) news' hl' hcell h1 hroom
                                      (fun k hk => by
                                        rw [heap_get_of hh]
                                        simp only [List.getElem?_toArray]
                                        have : 0 + n * i.size + k < (xs ++ ys).length := by
                                          rw [List.length_append, hxy]
                                          rw [hl'] at hk
                                          rw [Nat.add_mul] at hmul
                                          omega
                                        rw [List.getElem?_eq_getElem this]
                                        rfl)
                                      (fun k hk => by simp [World.frozen?, hh])
                                    rw [hr] at hr2
                                    have hv2 := (Result.ok.inj hr2).1
                                    obtain ⟨g, cap, hv3, hb, _, hok⟩ := own_ok (E := E) (vs := vs ++ news) ho hn0 (rx.append rn)
                                    have hgb : g = b0 := by
                                      rw [hv3] at hv2
                                      exact (Addr.mk.inj (Option.some.inj (Value.slice.inj hv2).1)).1
                                    subst hgb
                                    obtain ⟨p1, p2, p3⟩ := Rk.grown hg (fun k h => by
                                      obtain rfl : g = k := Option.some.inj h
                                      exact ⟨R.new i0 g k0 hbi hE0, hother⟩) (.inr rfl) hok
                                    exact ⟨_, _, w', hr, p2, p1, p3, hv3 ▸ rel_own Ren.at⟩
                                  · obtain ⟨v', w', hr, ho, hg⟩ := run_append_arg_grows (P := P) w t ty e' i z i.size i.bytes hu hi hz rfl rfl hzs hs0 ⟨b0, 0, none⟩ n k0 xs hxl
                                      (fun k u hk => by
                                        rw [Addr.add_lit, heap_get_of hh]
                                        have hk' : k < xs.length := by
                                          rcases Nat.lt_or_ge k xs.length with h | h
                                          · exact h
                                          · rw [List.getElem?_eq_none h] at hk; cases hk
                                        simp [List.getElem?_append_left hk', hk]) ⟨bj, oy, none⟩ m (room cy kj) news' hl' hcell (by omega) (by unfold maxLen; omega) (hbytes n hn1)
                                    obtain ⟨g, cap, rfl, hb, _, hok⟩ := own_ok (E := E) (vs := vs ++ news) ho hn0 (rx.append rn)
                                    obtain ⟨p1, p2, p3⟩ := Rk.grown hg (fun k h => by cases h) (.inl hb) hok
                                    exact ⟨_, _, w', hr, p2, p1, p3, rel_own Ren.at⟩
                              · cases e
                    · cases e
              · cases e
          · cases e
      · cases e
    · cases e
  · cases e
end
end Go.Proofs.YtjfchpfbpmediaaGreatDoor
/-
  A run by reckoning: make, bytes as a text, parts of rows that have grown, clear.
-/
namespace Go.Proofs.YtjfchpfbpmediaaGreatDoor
open Go Go.RowKit
def msl (P : Program) (H : RW) (t : TypeId) (x y : Value) : Option (Value × RW) :=
  match P.underlying t with
  | some (.slice e) => match P.info? e with
    | some i => match i.zero, x, y with
      | some z, .int _ l, .int _ c => bif decide (0 ≤ l) && decide (l ≤ c) && decide (c ≤ 1000000) && Nat.ble i.bytes 10000 && Nat.ble (c.toNat * i.size) 16777216 && (madeCells z.cells (c.toNat * i.size)).toList.all flat then
          some (.slice (some ⟨H.n, 0, none⟩) l.toNat c.toNat, H.push (.row (madeCells z.cells (c.toNat * i.size)).toList e)) else none
      | _, _, _ => none
    | none => none
  | _ => none
def ints8 : List Value → Option (List Int)
  | [] => some []
  | .int .u8 n :: l => match ints8 l with
    | some ns => some (n :: ns)
    | none => none
  | _ :: _ => none
def b2s (P : Program) (H : RW) (src dst : TypeId) (x : Value) : Option Value :=
  match svp P (Go.underlying src), svp P (Go.underlying dst), x with
  | some (.slice e), some .string, .slice (some ⟨i, o, none⟩) n _ => match svp P (Go.underlying e), cellsOf H i o n with
    | some (.int .u8), some vs => match ints8 vs with
      | some ns => some (.string (ns.foldl (fun r n => r.push (UInt8.ofNat n.toNat)) ByteArray.empty))
      | none => none
    | _, _ => none
  | _, _, _ => none
/-- a bound that is left out, or a number -/
def bnd (d : Nat) : Option Value → Option Nat
  | none => some d
  | some (.int _ n) => bif decide (0 ≤ n) then some n.toNat else none
  | _ => none
def slu (P : Program) (H : RW) (t : TypeId) (x : Value) (lo hi mx : Option Value) : Option Value :=
  match svp P (Go.underlying t), x with
  | some (.slice el), .slice (some ⟨i, o, none⟩) n c => match svp P (Go.sizeOf el), look i H.h, bnd 0 lo, bnd n hi with
    | some size, some (.own vs _ sz), some l, some h => match mx with
      | none => bif Nat.ble big c && Nat.beq sz size && Nat.ble l h && Nat.ble ((c - big + h) * sz) vs.length && (Nat.beq l 0 || Nat.blt l h) && Nat.blt 0 sz then
          some (.slice (some ((⟨i, o, none⟩ : Addr).add (l * size))) (h - l) (c + l)) else none
      | some (.int _ m) => bif Nat.ble big c && Nat.beq sz size && Nat.ble l h && decide (0 ≤ m) && Nat.ble h m.toNat && Nat.ble ((c - big + m.toNat) * sz) vs.length && Nat.blt m.toNat big && Nat.blt 0 sz && hi.isSome then
          some (.slice (some (bif Nat.beq m.toNat l then ⟨i, o, none⟩ else (⟨i, o, none⟩ : Addr).add (l * size))) (h - l) (m.toNat - l)) else none
      | _ => none
    | _, _, _, _ => none
  | _, _ => none
/-- a text as bytes -/
def s2b (P : Program) (H : RW) (src dst : TypeId) (x : Value) : Option (Value × RW) :=
  match svp P (Go.underlying src), svp P (Go.underlying dst), x with
  | some _, some (.slice e), .string s => match svp P (Go.underlying e) with
    | some (.int .u8) => some (.slice (some ⟨H.n, 0, none⟩) s.size big, H.push (.ro (s.data.toList.map fun b => .int .u8 b.toNat)))
    | _ => none
  | _, _, _ => none
section
variable {P : Program} {X : Kep} {base : Nat} {E : Ren} {H : RW} {w w' : World}
theorem blt_of {x y : Nat} (h : x < y) : Nat.blt x y = true := by rw [Nat.blt_eq]; exact h
theorem msl_sound [Ltr] {t : TypeId} {x y v : Value} {H1 : RW} (R : Rep X base E H w) (e : msl P H t x y = some (v, H1)) :
    ∃ F v' w', (Instr.makeSlice t x y).run P w = .ok v' w' ∧ Ext E F ∧ Rep X base F H1 w' ∧ Kp X w w' ∧ Rel F v v' := by
  unfold msl at e
  split at e
  · rename_i el hu
    split at e
    · rename_i i hi
      split at e
      · rename_i z kl l kc c hz
        cases hc : (decide (0 ≤ l) && decide (l ≤ c) && decide (c ≤ 1000000) && Nat.ble i.bytes 10000 && Nat.ble (c.toNat * i.size) 16777216 && (madeCells z.cells (c.toNat * i.size)).toList.all flat) with
        | false => rw [hc] at e; cases e
        | true =>
          rw [hc] at e
          simp only [Bool.and_eq_true, decide_eq_true_eq] at hc
          obtain ⟨⟨⟨⟨⟨h1, h2⟩, h3⟩, h4⟩, h5⟩, h6⟩ := hc
          obtain ⟨rfl, rfl⟩ := Prod.mk.inj (Option.some.inj e)
          have hb := Nat.le_of_ble_eq_true h4
          have hbytes : (i.bytes : Int) * c ≤ 281474976710656 := by
            have h7 : (i.bytes : Int) ≤ 10000 := by omega
            have h8 : (i.bytes : Int) * c ≤ 10000 * 1000000 := Int.mul_le_mul h7 h3 (by omega) (by decide)
            omega
          have hr := run_makeSlice (P := P) w t el i z hu hi hz kl kc l c h1 h2 (Nat.le_of_ble_eq_true h5) hbytes (by omega)
          obtain ⟨p1, p2, p3⟩ := R.push (o := .row (madeCells z.cells (c.toNat * i.size)).toList el) (x := .cells (madeCells z.cells (c.toNat * i.size)) el) (k := 0) (fun F x => ⟨_, rfl, RelL.flats h6⟩)
          have hlt : Nat.blt c.toNat big = true := by
            cases hb : Nat.blt c.toNat big with
            | true => rfl
            | false =>
              have : ¬ c.toNat < big := fun h => by rw [blt_of h] at hb; cases hb
              unfold big at this
              omega
          exact ⟨_, _, _, hr, p2, p1, p3, relSl ⟨_, _, _, _, rfl, rfl, Ren.at⟩ hlt⟩
      · cases e
    · cases e
  · cases e
theorem run_loadCellsFrom {a : Addr} : ∀ (vs : List Value) (i : Nat) (acc : Array Value), (∀ j u, vs[j]? = some u → w.cell? (a.add (i + j)) = some u) → (Go.loadCellsFrom a i vs.length acc).run P w = .ok (acc ++ vs.toArray) w
  | [], i, acc, _ => by simp [Go.loadCellsFrom]
  | v :: vs, i, acc, h => by
    have h0 := h 0 v rfl
    have ih := run_loadCellsFrom vs (i + 1) (acc.push v) (fun j u hu => by
      have := h (j + 1) u (by simpa using hu)
      rwa [show i + (j + 1) = i + 1 + j by omega] at this)
    show (Go.load (a.add i) >>= fun v => Go.loadCellsFrom a (i + 1) vs.length (acc.push v)).run P w = _
    rw [Sem.run_bind]
    have hl : (Go.load (a.add i)).run P w = .ok v w := by
      simp only [Nat.add_zero] at h0
      simp [Go.load, Sem.run, h0]
    rw [hl, Result.andThen_ok, ih]
    congr 1
    apply Array.ext'
    simp
theorem ints8_eq : ∀ {vs : List Value} {ns : List Int}, ints8 vs = some ns → vs = ns.map (Value.int .u8)
  | [], ns, e => by obtain rfl := Option.some.inj e; rfl
  | v :: l, ns, e => by
    unfold ints8 at e
    split at e
    · rename_i h; cases h
    · rename_i n l' h
      obtain ⟨rfl, rfl⟩ := List.cons.inj h
      cases hl : ints8 l with
      | none => rw [hl] at e; cases e
      | some ms =>
        rw [hl] at e
        obtain rfl := Option.some.inj e
        rw [ints8_eq hl]
        rfl
    · cases e
theorem RelL.ints [Ltr] {ns : List Int} : ∀ {vs : List Value}, RelL E (ns.map (Value.int .u8)) vs → vs = ns.map (Value.int .u8) := by
  induction ns with
  | nil => intro vs h; cases h; rfl
  | cons n ns ih =>
    intro vs h
    cases h with
    | cons h t => rw [h.int, ih t]; rfl
theorem b2s_sound [Ltr] {src dst : TypeId} {x x' v : Value} (R : Rep X base E H w) (hx : Rel E x x') (e : b2s P H src dst x = some v) : (Go.convert src dst x').run P w = .ok v w ∧ flat v = true := by
  unfold b2s at e
  split at e
  · rename_i el i o n c hs hd
    split at e
    · rename_i vs he hvs
      cases hi : ints8 vs with
      | none => rw [hi] at e; cases e
      | some ns =>
        rw [hi] at e
        obtain rfl := Option.some.inj e
        refine ⟨?_, rfl⟩
        cases hx with
        | same hf => cases hf
        | @sl _ _ b k _ _ hE =>
          obtain ⟨vs', r, hl, hc⟩ := cellsOf_rel R hE n o hvs
          rw [ints8_eq hi] at r
          obtain rfl := RelL.ints r
          have hlen : (ns.map (Value.int .u8)).length = n := by rw [← hl, ints8_eq hi]
          have hload : (Go.loadCells (⟨b, o, none⟩ : Addr) n).run P w = .ok (ns.map (Value.int .u8)).toArray w := by
            have := run_loadCellsFrom (P := P) (w := w) (a := ⟨b, o, none⟩) (ns.map (Value.int .u8)) 0 #[] (fun j u hu => by rw [Addr.add_lit, Nat.zero_add]; exact hc j u hu)
            rw [hlen] at this
            simpa [Go.loadCells] using this
          have := run_bytesToString (P := P) w ⟨b, o, none⟩ n (room c k) ns hload
          show ((Go.underlying src) >>= _).run P w = _
          rw [Sem.run_bind, svp_run w hs, Result.andThen_ok, Sem.run_bind, svp_run w hd, Result.andThen_ok]
          dsimp only
          rw [Sem.run_bind, svp_run w he, Result.andThen_ok]
          exact this
    · cases e
  · cases e
theorem bnd_run {d : Nat} {v : Option Value} {l : Nat} (e : bnd d v = some l) : v = none ∧ l = d ∨ ∃ k n, v = some (.int k n) ∧ 0 ≤ n ∧ l = n.toNat := by
  unfold bnd at e
  split at e
  · exact .inl ⟨rfl, (Option.some.inj e).symm⟩
  · rename_i k n
    cases hn : decide (0 ≤ n) with
    | false => rw [hn] at e; cases e
    | true => rw [hn] at e; exact .inr ⟨k, n, rfl, of_decide_eq_true hn, (Option.some.inj e).symm⟩
  · cases e
theorem run_sliceBound {k : IntKind} {n : Int} {y : Nat} {c : BoundsCode} (h0 : 0 ≤ n) (h1 : n.toNat ≤ y) : (Instr.sliceBound (.int k n) y c).run P w = .ok n.toNat w := by
  have : n ≤ (y : Int) := by omega
  simp [Instr.sliceBound, asIntOf, h0, this]
theorem run_bounds [Ltr] {n m l h : Nat} {lo hi : Option Value} (el : bnd 0 lo = some l) (eh : bnd n hi = some h) (hl : l ≤ h) (hm : h ≤ m) : (Instr.sliceBounds true n m lo hi none).run P w = .ok (l, h, m) w := by
  rcases bnd_run el with ⟨rfl, rfl⟩ | ⟨k, a, rfl, h0, rfl⟩ <;> rcases bnd_run eh with ⟨rfl, rfl⟩ | ⟨k2, b, rfl, h2, rfl⟩
  · simp [Instr.sliceBounds]
  · simp [Instr.sliceBounds, run_sliceBound h2 hm]
  · simp [Instr.sliceBounds, run_sliceBound h0 hl]
  · simp [Instr.sliceBounds, run_sliceBound h2 hm, run_sliceBound h0 hl]
theorem run_bounds3 [Ltr] {n m cap l h : Nat} {k : IntKind} {mv : Int} {lo hi : Option Value} (h0 : 0 ≤ mv) (hm : m = mv.toNat) (hc : m ≤ cap) (el : bnd 0 lo = some l) (eh : bnd n hi = some h) (his : hi.isSome = true) (hl : l ≤ h) (hh : h ≤ m) :
    (Instr.sliceBounds true n cap lo hi (some (.int k mv))).run P w = .ok (l, h, m) w := by
  subst hm
  rcases bnd_run eh with ⟨rfl, rfl⟩ | ⟨k2, b, rfl, h2, rfl⟩
  · cases his
  rcases bnd_run el with ⟨rfl, rfl⟩ | ⟨k, a, rfl, h3, rfl⟩
  · simp [Instr.sliceBounds, run_sliceBound h0 hc, run_sliceBound h2 hh]
  · simp [Instr.sliceBounds, run_sliceBound h0 hc, run_sliceBound h2 hh, run_sliceBound h3 hl]
theorem slu_sound [Ltr] {t : TypeId} {x x' v : Value} {lo hi mx : Option Value} (R : Rep X base E H w) (hx : Rel E x x') (e : slu P H t x lo hi mx = some v) : ∃ v', (Instr.sliceAt t x' lo hi mx).run P w = .ok v' w ∧ Rel E v v' := by
  unfold slu at e
  split at e
  · rename_i el i o n c hu
    split at e
    · rename_i size vs ty sz l h hsz hlk hl hh
      cases hx with
      | same hf => cases hf
      | @sl _ _ b k _ _ hE =>
        obtain ⟨b2, k2, e2, xs, ys, hhp, rx, hxy, hmx⟩ := R.ok i _ hlk
        rw [hE] at e2
        obtain ⟨rfl, rfl⟩ := Prod.mk.inj (Option.some.inj e2)
        have hvl := rx.length
        have start : ∀ {cap l2 h2 m2 : Nat}, (Instr.sliceBounds true n cap lo hi mx).run P w = .ok (l2, h2, m2) w →
            (Instr.sliceAt t (.slice (some ⟨b, o, none⟩) n cap) lo hi mx).run P w = .ok (.slice (if m2 = l2 then some ⟨b, o, none⟩ else some ((⟨b, o, none⟩ : Addr).add (l2 * size))) (h2 - l2) (m2 - l2)) w := by
          intro cap l2 h2 m2 hb
          show ((Go.underlying t) >>= _).run P w = _
          rw [Sem.run_bind, svp_run w hu, Result.andThen_ok]
          show ((Go.underlying t) >>= _).run P w = _
          rw [Sem.run_bind, svp_run w hu, Result.andThen_ok]
          dsimp only
          rw [Sem.run_bind, hb, Result.andThen_ok]
          dsimp only
          rw [Sem.run_bind, svp_run w hsz, Result.andThen_ok]
          rfl
        have hcap : ∀ {q : Nat}, (c - big + q) * sz ≤ vs.length → 0 < sz → c - big + q ≤ k := by
          intro q h1 h2
          have : (c - big + q) * sz ≤ k * sz := by omega
          exact Nat.le_of_mul_le_mul_right this h2
        have hroom : big ≤ c → ∀ q, big ≤ c + q ∧ room (c + q) k = k - (c - big + q) := by
          intro hb q
          refine ⟨by omega, ?_⟩
          have hf : Nat.blt (c + q) big = false := by
            cases hq : Nat.blt (c + q) big with
            | true => have : c + q < big := Nat.le_of_ble_eq_true hq; omega
            | false => rfl
          unfold room
          rw [hf, cond_false]
          omega
        split at e
        · cases hc : (Nat.ble big c && Nat.beq sz size && Nat.ble l h && Nat.ble ((c - big + h) * sz) vs.length && (Nat.beq l 0 || Nat.blt l h) && Nat.blt 0 sz) with
          | false => rw [hc] at e; cases e
          | true =>
            rw [hc] at e
            simp only [Bool.and_eq_true, Bool.or_eq_true] at hc
            obtain ⟨⟨⟨⟨⟨c1, c2⟩, c3⟩, c4⟩, c5⟩, c6⟩ := hc
            have c1' := Nat.le_of_ble_eq_true c1
            obtain rfl := Nat.eq_of_beq_eq_true c2
            have c3' := Nat.le_of_ble_eq_true c3
            have hk := hcap (Nat.le_of_ble_eq_true c4) (Nat.le_of_ble_eq_true c6)
            obtain rfl := Option.some.inj e
            have hr0 := (hroom c1' 0).2
            rw [Nat.add_zero, Nat.add_zero] at hr0
            have hrun := start (run_bounds (P := P) (w := w) (m := room c k) hl hh c3' (by rw [hr0]; omega))
            refine ⟨_, hrun, ?_⟩
            have ha : RelAd E ⟨i, o, none⟩ ⟨b, o, none⟩ := ⟨_, _, _, _, rfl, rfl, hE⟩
            have hadd : (if room c k = l then some (⟨b, o, none⟩ : Addr) else some ((⟨b, o, none⟩ : Addr).add (l * sz))) = some ((⟨b, o, none⟩ : Addr).add (l * sz)) := by
              rcases c5 with c5 | c5
              · obtain rfl := Nat.eq_of_beq_eq_true c5
                simp [Addr.add]
              · have c5' : l < h := Nat.le_of_ble_eq_true c5
                rw [if_neg (by rw [hr0]; omega)]
            rw [hadd]
            obtain ⟨i2, o2, b2, k2, q1, q2, q3⟩ := ha.add (l * sz)
            rw [q1, q2]
            have hi2 : i2 = i := by
              have := congrArg Addr.block q1
              rw [Addr.add_lit] at this
              exact this.symm
            subst hi2
            rw [hE] at q3
            obtain ⟨rfl, rfl⟩ := Prod.mk.inj (Option.some.inj q3)
            have := Rel.sl (E := E) (o := o2) (n := h - l) (c := c + l) hE
            rwa [(hroom c1' l).2, show k - (c - big + l) = room c k - l by rw [hr0]; omega] at this
        · rename_i km mv
          cases hc : (Nat.ble big c && Nat.beq sz size && Nat.ble l h && decide (0 ≤ mv) && Nat.ble h mv.toNat && Nat.ble ((c - big + mv.toNat) * sz) vs.length && Nat.blt mv.toNat big && Nat.blt 0 sz && hi.isSome) with
          | false => rw [hc] at e; cases e
          | true =>
            rw [hc] at e
            simp only [Bool.and_eq_true, decide_eq_true_eq] at hc
            obtain ⟨⟨⟨⟨⟨⟨⟨⟨c1, c2⟩, c3⟩, c4⟩, c5⟩, c6⟩, c7⟩, c8⟩, c9⟩ := hc
            have c1' := Nat.le_of_ble_eq_true c1
            obtain rfl := Nat.eq_of_beq_eq_true c2
            have c3' := Nat.le_of_ble_eq_true c3
            have c5' := Nat.le_of_ble_eq_true c5
            have hk := hcap (Nat.le_of_ble_eq_true c6) (Nat.le_of_ble_eq_true c8)
            obtain rfl := Option.some.inj e
            have hr0 := (hroom c1' 0).2
            rw [Nat.add_zero, Nat.add_zero] at hr0
            have hrun := start (run_bounds3 (P := P) (w := w) (cap := room c k) c4 rfl (by rw [hr0]; omega) hl hh c9 c3' c5')
            refine ⟨_, hrun, ?_⟩
            have ha : RelAd E ⟨i, o, none⟩ ⟨b, o, none⟩ := ⟨_, _, _, _, rfl, rfl, hE⟩
            have hlt : Nat.blt (mv.toNat - l) big = true := by
              have : mv.toNat < big := Nat.le_of_ble_eq_true c7
              exact blt_of (by omega)
            cases hb : Nat.beq mv.toNat l with
            | true =>
              rw [if_pos (Nat.eq_of_beq_eq_true hb)]
              exact relSl ha hlt
            | false =>
              rw [if_neg (fun h => by rw [h, Nat.beq_refl] at hb; cases hb)]
              exact relSl (ha.add _) hlt
        · cases e
    · cases e
  · cases e
theorem s2b_sound [Ltr] {src dst : TypeId} {x v : Value} {H1 : RW} (R : Rep X base E H w) (e : s2b P H src dst x = some (v, H1)) :
    ∃ F v' w', (Go.convert src dst x).run P w = .ok v' w' ∧ Ext E F ∧ Rep X base F H1 w' ∧ Kp X w w' ∧ Rel F v v' := by
  unfold s2b at e
  split at e
  · rename_i d el s hs hd
    split at e
    · rename_i he
      obtain ⟨rfl, rfl⟩ := Prod.mk.inj (Option.some.inj e)
      obtain ⟨cap, hcap⟩ : ∃ cap, cap = (Question.appendCap s.size 0 el).cut (w.tape w.drawn (.appendCap s.size 0 el)) := ⟨_, rfl⟩
      let cs : Array Value := (s.data.map fun b => Value.int .u8 b.toNat) ++ Array.replicate (cap - s.size) (.int .u8 0)
      let w1 : World := { w with heap := w.heap.push (.cells cs el), drawn := w.drawn + 1 }
      let w2 : World := w1.freeze { block := w.heap.size, off := cs.size } 1
      have hb : w2.heap[w.heap.size]? = some (.cells cs el (cs.size, cs.size + 1)) := by
        show (World.freeze w1 _ 1).heap[w.heap.size]? = _
        unfold World.freeze
        rw [if_neg (by decide)]
        show (Array.modify (w.heap.push (.cells cs el)) w.heap.size _)[w.heap.size]? = _
        rw [Array.getElem?_modify, if_pos rfl, Array.getElem?_push_size]
        rfl
      have hg : w.grownBy w2 none := by
        refine ⟨rfl, rfl, rfl, by simp [w2, w1, World.freeze], fun k hk _ => ?_⟩
        have hne : w.heap.size ≠ k := by omega
        simp [w2, w1, World.freeze, Array.getElem?_modify, hne, Array.getElem?_push_lt hk, Array.getElem?_eq_getElem hk]
      obtain ⟨p1, p2, p3⟩ := R.grown (g := w.heap.size) (k := cap) (o := .ro (s.data.toList.map fun b => .int .u8 b.toNat)) hg (fun k h => by cases h) (.inl (Nat.le_refl _)) (fun F x => by
        refine ⟨cs, el, _, hb, fun j v hj => ⟨v, ?_, ?_⟩⟩
        · have hj' : j < s.data.size := by
            rcases Nat.lt_or_ge j s.data.size with h | h
            · exact h
            · rw [List.getElem?_eq_none (by simpa using h)] at hj; cases hj
          simp only [cs]
          rw [Array.getElem?_append_left (by simpa using hj')]
          simpa using hj
        · have : v ∈ s.data.toList.map fun b => Value.int .u8 b.toNat := List.mem_of_getElem? hj
          obtain ⟨b, _, rfl⟩ := List.mem_map.1 this
          exact .same rfl)
      refine ⟨_, .slice (some ⟨w.heap.size, 0, none⟩) s.size cap, w2, ?_, p2, p1, p3, rel_own Ren.at⟩
      show ((Go.underlying src) >>= _).run P w = _
      rw [Sem.run_bind, svp_run w hs, Result.andThen_ok, Sem.run_bind, svp_run w hd, Result.andThen_ok]
      have key : (Conv.stringToBytes el s).run P w = .ok (.slice (some ⟨w.heap.size, 0, none⟩) s.size cap) w2 := by
        have h1 : (choose (.appendCap s.size 0 el)).run P w = .ok cap { w with drawn := w.drawn + 1 } := by
          rw [hcap]; rfl
        have h2 : (newRow el cs).run P { w with drawn := w.drawn + 1 } = .ok ⟨w.heap.size, 0, none⟩ w1 := rfl
        have h4 : w1.shape? w.heap.size = some (el, cs.size) := by
          unfold World.shape?
          rw [show w1.heap[w.heap.size]? = some (.cells cs el) from Array.getElem?_push_size]
        have h3 : (markStringish ⟨w.heap.size, 0, none⟩).run P w1 = .ok () w2 := by
          show (match w1.shape? w.heap.size with | some (_, n) => Go.freeze { block := w.heap.size, off := n } 1 | _ => Pure.pure ()).run P w1 = _
          rw [h4]
          rfl
        unfold Conv.stringToBytes
        rw [Sem.run_bind, h1, Result.andThen_ok]
        show (newRow el cs >>= _).run P _ = _
        rw [Sem.run_bind, h2, Result.andThen_ok, Sem.run_bind, h3]
        rfl
      cases d <;> first
        | (dsimp only; rw [Sem.run_bind, svp_run w he, Result.andThen_ok]; exact key)
    · cases e
  · cases e
end
end Go.Proofs.YtjfchpfbpmediaaGreatDoor
