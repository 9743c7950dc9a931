/-
  A run by reckoning: append, make, bytes as a text.
-/
import Derived.Test.YtkhmbphcjacgnaaGreatDoorEvA
namespace Go.Proofs.YtkhmbphcjacgnaaGreatDoor
open Go Go.RowKit
def apd (P : Program) (base : Nat) (H : RW) (t : TypeId) (x y : Value) : Option (Value × RW) :=
  match P.underlying t with
  | some (.slice e) => match P.info? e with
    | some i => match i.zero with
      | some z => bif Nat.blt 0 i.size && Nat.beq z.cells.size i.size then
          match y with
          | .slice (some ⟨j, oy, none⟩) m _ => bif Nat.blt 0 m && Nat.ble m 1000000 && Nat.ble i.bytes 10000 then
            match cellsOf H j oy (m * i.size) with
            | some news => bif news.all single then
                match x with
                | .slice none 0 0 => some (.slice (some ⟨H.n, 0, none⟩) m big, H.push (.own news e i.size))
                | .slice (some ⟨i0, ox, none⟩) n c => bif Nat.ble n 1000000 then
                    bif Nat.blt c big then bif Nat.blt c (n + m) then match cellsOf H i0 ox (n * i.size) with
                        | some olds => some (.slice (some ⟨H.n, 0, none⟩) (n + m) big, H.push (.own (olds ++ news) e i.size))
                        | none => none
                      else none
                    else bif Nat.beq c big && Nat.beq ox 0 && Nat.ble base i0 then match look i0 H.h with
                        | some (.own vs e' sz) => bif Nat.beq e' e && Nat.beq sz i.size && Nat.beq vs.length (n * i.size) then
                            some (.slice (some ⟨H.n, 0, none⟩) (n + m) big, (H.kill i0).push (.own (vs ++ news) e i.size)) else none
                        | _ => none
                      else none
                  else none
                | _ => none
              else none
            | none => none
            else none
          | _ => none
        else none
      | none => none
    | none => none
  | _ => none
section
variable {P : Program} {X : Kep} {base : Nat} {E : Ren} {H : RW} {w w' : World}
theorem room_big (k : Nat) : room big k = k := by
  have h : Nat.blt big big = false := by
    cases hb : Nat.blt big big with
    | true => exact absurd (Nat.le_of_ble_eq_true hb) (by omega)
    | false => rfl
  unfold room
  rw [h, cond_false, Nat.sub_self, Nat.sub_zero]
theorem ones [Ltr] {vs vs' : List Value} : RelL E vs vs' → vs.all single = true → ∀ u ∈ vs', u.oneCell' = true
  | .nil, _ => by simp
  | .cons h t, hs => by
    simp only [List.all_cons, Bool.and_eq_true] at hs
    intro u hu
    rcases List.mem_cons.1 hu with rfl | hu
    · obtain ⟨n1, n2⟩ := single_not h hs.1
      cases u with
      | agg c => exact absurd rfl (n1 c)
      | tuple c => exact absurd rfl (n2 c)
      | _ => rfl
    · exact ones t hs.2 u hu
/-- a row that is owned, as a name -/
theorem own_ok [Ltr] {b0 n sz : Nat} {e : TypeId} {v' : Value} {xs vs : List Value} (ho : w'.ownsRow b0 e sz v' n xs) (hn : 0 < n) (r : RelL E vs xs) :
    ∃ g cap, v' = .slice (some ⟨g, 0, none⟩) n cap ∧ b0 ≤ g ∧ n ≤ cap ∧ ∀ F, Ext E F → Ok F cap (.own vs e sz) w'.heap[g]? := by
  obtain ⟨hl, h | ⟨g, cap, cur, hv, hb, hh, h1, h2, h3, h4⟩⟩ := ho
  · omega
  · refine ⟨g, cap, hv, hb, h1, fun F x => ⟨xs, cur.toList.drop (n * sz), ?_, r.mono x, ?_, h2⟩⟩
    · rw [hh, ← h4, List.take_append_drop]
    · have : cur.toList.length = cap * sz := by simpa using h3
      have hle : n * sz ≤ cap * sz := Nat.mul_le_mul_right sz h1
      rw [List.length_drop, this, hl]
      omega
theorem rel_own [Ltr] {g cap n i : Nat} (h : E i = some (g, cap)) : Rel E (.slice (some ⟨i, 0, none⟩) n big) (.slice (some ⟨g, 0, none⟩) n cap) := by
  have := Rel.sl (o := 0) (n := n) (c := big) h
  rwa [room_big] at this
theorem apd_sound [Ltr] {t ty : TypeId} {x y x' y' v : Value} {H1 : RW} (R : Rep X base E H w) (hx : Rel E x x') (hy : Rel E y y') (e : apd P base H t x y = some (v, H1)) :
    ∃ F v' w', (Builtin.append_ #[t, t] ty #[x', y']).run P w = .ok v' w' ∧ Ext E F ∧ Rep X base F H1 w' ∧ Kp X w w' ∧ Rel F v v' := by
  unfold apd at e
  split at e
  · rename_i el hu
    split at e
    · rename_i i hi
      split at e
      · rename_i z hz
        cases hc : (Nat.blt 0 i.size && Nat.beq z.cells.size i.size) with
        | false => rw [hc] at e; cases e
        | true =>
          rw [hc] at e
          simp only [Bool.and_eq_true] at hc
          have hs0 : 0 < i.size := Nat.le_of_ble_eq_true hc.1
          have hzs : z.cells.size = i.size := Nat.eq_of_beq_eq_true hc.2
          dsimp only [cond_true] at e
          split at e
          · rename_i j oy m cy
            cases hm : (Nat.blt 0 m && Nat.ble m 1000000 && Nat.ble i.bytes 10000) with
            | false => rw [hm] at e; cases e
            | true =>
              rw [hm] at e
              simp only [Bool.and_eq_true] at hm
              have hm0 : 0 < m := Nat.le_of_ble_eq_true hm.1.1
              have hm1 := Nat.le_of_ble_eq_true hm.1.2
              have hby := Nat.le_of_ble_eq_true hm.2
              dsimp only [cond_true] at e
              split at e
              · rename_i news hnews
                cases hsg : news.all single with
                | false => rw [hsg] at e; cases e
                | true =>
                  rw [hsg] at e
                  dsimp only [cond_true] at e
                  have hbytes : ∀ n, n ≤ 1000000 → (n + m) * i.bytes ≤ 140737488355328 := fun n hn =>
                    Nat.le_trans (Nat.mul_le_mul (Nat.add_le_add hn hm1) hby) (by decide)
                  cases hy with
                  | same hf => cases hf
                  | @sl _ _ bj kj _ _ hEj =>
                    obtain ⟨news', rn, ln, cn⟩ := cellsOf_rel R hEj (m * i.size) oy hnews
                    have hl' : news'.length = m * i.size := by rw [rn.length, ln]
                    have hcell : ∀ k u, news'[k]? = some u → w.cell? ((⟨bj, oy, none⟩ : Addr).add k) = some u := fun k u hk => by rw [Addr.add_lit]; exact cn k u hk
                    have h1 := ones rn hsg
                    split at e
                    · -- nil
                      obtain rfl := hx.flat_eq rfl
                      obtain ⟨rfl, rfl⟩ := Prod.mk.inj (Option.some.inj e)
                      obtain ⟨v', w', hr, ho, hg, hiff⟩ := run_append_own (P := P) w w.heap.size t ty el i z i.size i.bytes hu hi hz rfl rfl hzs hs0 (.slice none 0 0) 0 [] (World.ownsRow_nil w _ _ _) ⟨bj, oy, none⟩ m (room cy kj) news' hl' hcell h1
                        (by unfold maxLen; omega) (hbytes 0 (by omega)) (Nat.le_refl _)
                      have hn0 : 0 < 0 + m := by omega
                      obtain ⟨g, cap, rfl, hb, _, hok⟩ := own_ok (E := E) (vs := news) ho hn0 (by simpa using rn)
                      obtain ⟨p1, p2, p3⟩ := R.grown hg (fun k h => by cases h) (.inl hb) hok
                      refine ⟨_, _, w', hr, p2, p1, p3, ?_⟩
                      rw [Nat.zero_add]
                      exact rel_own Ren.at
                    · rename_i i0 ox n c
                      cases hn : Nat.ble n 1000000 with
                      | false => rw [hn] at e; cases e
                      | true =>
                        rw [hn] at e
                        have hn1 := Nat.le_of_ble_eq_true hn
                        dsimp only [cond_true] at e
                        cases hx with
                        | same hf => cases hf
                        | @sl _ _ b0 k0 _ _ hE0 =>
                          cases hcb : Nat.blt c big with
                          | true =>
                            rw [hcb] at e
                            dsimp only [cond_true] at e
                            cases hcn : Nat.blt c (n + m) with
                            | false => rw [hcn] at e; cases e
                            | true =>
                              rw [hcn] at e
                              dsimp only [cond_true] at e
                              have hcn' : c < n + m := Nat.le_of_ble_eq_true hcn
                              split at e
                              · rename_i olds holds
                                obtain ⟨rfl, rfl⟩ := Prod.mk.inj (Option.some.inj e)
                                obtain ⟨olds', ro, lo, co⟩ := cellsOf_rel R hE0 (n * i.size) ox holds
                                obtain ⟨v', w', hr, ho, hg⟩ := run_append_arg_grows (P := P) w t ty el i z i.size i.bytes hu hi hz rfl rfl hzs hs0 ⟨b0, ox, none⟩ n (room c k0) olds' (by rw [ro.length, lo])
                                  (fun k u hk => by rw [Addr.add_lit]; exact co k u hk) ⟨bj, oy, none⟩ m (room cy kj) news' hl' hcell (by rw [room_known hcb]; exact hcn') (by unfold maxLen; omega) (hbytes n hn1)
                                have hn0 : 0 < n + m := by omega
                                obtain ⟨g, cap, rfl, hb, _, hok⟩ := own_ok (E := E) (vs := olds ++ news) ho hn0 (ro.append rn)
                                obtain ⟨p1, p2, p3⟩ := R.grown hg (fun k h => by cases h) (.inl hb) hok
                                exact ⟨_, _, w', hr, p2, p1, p3, rel_own Ren.at⟩
                              · cases e
                          | false =>
                            rw [hcb] at e
                            dsimp only [cond_false] at e
                            cases hq : (Nat.beq c big && Nat.beq ox 0 && Nat.ble base i0) with
                            | false => rw [hq] at e; cases e
                            | true =>
                              rw [hq] at e
                              simp only [Bool.and_eq_true] at hq
                              obtain rfl := Nat.eq_of_beq_eq_true hq.1.1
                              obtain rfl := Nat.eq_of_beq_eq_true hq.1.2
                              have hbi := Nat.le_of_ble_eq_true hq.2
                              dsimp only [cond_true] at e
                              split at e
                              · rename_i vs e' sz hlk
                                cases hv : (Nat.beq e' el && Nat.beq sz i.size && Nat.beq vs.length (n * i.size)) with
                                | false => rw [hv] at e; cases e
                                | true =>
                                  rw [hv] at e
                                  simp only [Bool.and_eq_true] at hv
                                  obtain rfl := Nat.eq_of_beq_eq_true hv.1.1
                                  obtain rfl := Nat.eq_of_beq_eq_true hv.1.2
                                  have hvl := Nat.eq_of_beq_eq_true hv.2
                                  obtain ⟨rfl, rfl⟩ := Prod.mk.inj (Option.some.inj e)
                                  obtain ⟨b2, k2, e2, xs, ys, hh, rx, hxy, hmx⟩ := R.ok i0 _ hlk
                                  rw [hE0] at e2
                                  obtain ⟨rfl, rfl⟩ := Prod.mk.inj (Option.some.inj e2)
                                  rw [room_big]
                                  have hxl : xs.length = n * i.size := by rw [rx.length, hvl]
                                  have hnk : n ≤ k0 := by
                                    have : n * i.size ≤ k0 * i.size := by omega
                                    exact Nat.le_of_mul_le_mul_right this hs0
                                  have Rk := R.kill hlk
                                  have hn0 : 0 < n + m := by omega
                                  have hother : ∀ i' o' b' kk, look i' (H.kill i0).h = some o' → o'.live = true → E i' = some (b', kk) → b' ≠ b0 := by
                                    intro i' o' b' kk hi' li e3 hb
                                    subst hb
                                    by_cases hii : i' = i0
                                    · subst hii
                                      have : look i' (upd i' .gone H.h) = some .gone := look_upd hlk
                                      rw [RW.kill, this] at hi'
                                      obtain rfl := Option.some.inj hi'
                                      cases li
                                    · rw [RW.kill, look_upd_ne hii] at hi'
                                      exact hii (R.inj i' i0 o' _ b' kk k0 hi' li hlk rfl e3 hE0)
                                  have own : w.ownsRow 0 e' i.size (.slice (some ⟨b0, 0, none⟩) n k0) n xs :=
                                    ⟨hxl, .inr ⟨b0, k0, ⟨xs ++ ys⟩, rfl, Nat.zero_le _, hh, hnk, hmx, by simpa using hxy, by simp [← hxl]⟩⟩
                                  by_cases hroom : n + m ≤ k0
                                  · obtain ⟨v', w', hr, ho, hg, -⟩ := run_append_own (P := P) w 0 t ty e' i z i.size i.bytes hu hi hz rfl rfl hzs hs0 _ n xs own ⟨bj, oy, none⟩ m (room cy kj) news' hl' hcell h1
                                      (by unfold maxLen; omega) (hbytes n hn1) (Nat.zero_le _)
                                    have hmul : (n + m) * i.size ≤ k0 * i.size := Nat.mul_le_mul_right _ hroom
                                    have hr2 := run_append_room_cells (P := P) w t ty e' i hu hi b0 0 n k0 ⟨bj, oy, none⟩ m (room cy kj) news' hl' hcell h1 hroom
                                      (fun k hk => by
                                        rw [heap_get_of hh]
                                        simp only [List.getElem?_toArray]
                                        have : 0 + n * i.size + k < (xs ++ ys).length := by
                                          rw [List.length_append, hxy]
                                          rw [hl'] at hk
                                          rw [Nat.add_mul] at hmul
                                          omega
                                        rw [List.getElem?_eq_getElem this]
                                        rfl)
                                      (fun k hk => by simp [World.frozen?, hh])
                                    rw [hr] at hr2
                                    have hv2 := (Result.ok.inj hr2).1
                                    obtain ⟨g, cap, hv3, hb, _, hok⟩ := own_ok (E := E) (vs := vs ++ news) ho hn0 (rx.append rn)
                                    have hgb : g = b0 := by
                                      rw [hv3] at hv2
                                      exact (Addr.mk.inj (Option.some.inj (Value.slice.inj hv2).1)).1
                                    subst hgb
                                    obtain ⟨p1, p2, p3⟩ := Rk.grown hg (fun k h => by
                                      obtain rfl : g = k := Option.some.inj h
                                      exact ⟨R.new i0 g k0 hbi hE0, hother⟩) (.inr rfl) hok
                                    exact ⟨_, _, w', hr, p2, p1, p3, hv3 ▸ rel_own Ren.at⟩
                                  · obtain ⟨v', w', hr, ho, hg⟩ := run_append_arg_grows (P := P) w t ty e' i z i.size i.bytes hu hi hz rfl rfl hzs hs0 ⟨b0, 0, none⟩ n k0 xs hxl
                                      (fun k u hk => by
                                        rw [Addr.add_lit, heap_get_of hh]
                                        have hk' : k < xs.length := by
                                          rcases Nat.lt_or_ge k xs.length with h | h
                                          · exact h
                                          · rw [List.getElem?_eq_none h] at hk; cases hk
                                        simp [List.getElem?_append_left hk', hk]) ⟨bj, oy, none⟩ m (room cy kj) news' hl' hcell (by omega) (by unfold maxLen; omega) (hbytes n hn1)
                                    obtain ⟨g, cap, rfl, hb, _, hok⟩ := own_ok (E := E) (vs := vs ++ news) ho hn0 (rx.append rn)
                                    obtain ⟨p1, p2, p3⟩ := Rk.grown hg (fun k h => by cases h) (.inl hb) hok
                                    exact ⟨_, _, w', hr, p2, p1, p3, rel_own Ren.at⟩
                              · cases e
                    · cases e
              · cases e
          · cases e
      · cases e
    · cases e
  · cases e
end
end Go.Proofs.YtkhmbphcjacgnaaGreatDoor
