/-
  Periods over plain numbers: a period is that of its first day and of its last; the next one begins behind it.
-/
import Derived.Test.YtdobdmbdibnppaaGreatDoorXp1
namespace Go.Proofs.YtdobdmbdibnppaaGreatDoor.Cal
/-- the period of day a is s to e -/
def Per (f : Nat) (a s e : Int) : Prop := ∃ y m n, Is a y m n ∧ pf f a y n = s ∧ pt f a y m n = e
theorem per_in {f : Nat} {a s e : Int} (h : Per f a s e) : 1 ≤ a ∧ a ≤ 3652059 := by
  obtain ⟨y, m, n, h, _⟩ := h
  exact h.range
theorem parts0 {d y m n : Int} (h : Is d y m n) : Per 0 d d d ∧ (d = 3652059 ∨ ∃ e, Per 0 (d + 1) (d + 1) e) := by
  refine ⟨⟨y, m, n, h, rfl, rfl⟩, ?_⟩
  by_cases hd : d = 3652059
  · exact .inl hd
  · have r := h.range
    obtain ⟨a, b, c, k⟩ := is_ex (d + 1) (by omega) (by omega)
    exact .inr ⟨_, a, b, c, k, rfl, rfl⟩
theorem per1 (a s : Int) (h1 : 1 ≤ a) (h2 : a ≤ 3652059) (hs : s = a - (a - 1) % 7) : Per 1 a s (min (s + 6) 3652059) := by
  obtain ⟨y, m, n, h⟩ := is_ex a h1 h2
  subst hs
  exact ⟨y, m, n, h, rfl, rfl⟩
theorem per2 {a y m n : Int} (h : Is a y m n) : Per 2 a (a - n + 1) (a - n + dim y m) := ⟨y, m, n, h, rfl, rfl⟩
theorem per3 {a y m n : Int} (h : Is a y m n) : Per 3 a (dby y + 1) (dby (y + 1)) := ⟨y, m, n, h, rfl, rfl⟩
theorem parts {f : Nat} (hf : f < 4) {d : Int} (h1 : 1 ≤ d) (h2 : d ≤ 3652059) : ∃ s e, Per f d s e ∧ s ≤ d ∧ d ≤ e ∧ Per f s s e ∧ Per f e s e ∧ (e = 3652059 ∨ e < 3652059 ∧ ∃ x, Per f (e + 1) (e + 1) x) := by
  obtain ⟨y, m, n, h⟩ := is_ex d h1 h2
  obtain ⟨y1, y2, m1, m2, n1, n2, hn⟩ := id h
  have e : f = 0 ∨ f = 1 ∨ f = 2 ∨ f = 3 := by omega
  rcases e with rfl | rfl | rfl | rfl
  · have p := parts0 h
    refine ⟨d, d, p.1, by omega, by omega, p.1, p.1, ?_⟩
    rcases p.2 with h | h
    · exact .inl h
    · by_cases hd : d = 3652059
      · exact .inl hd
      · exact .inr ⟨by omega, h⟩
  · refine ⟨d - (d - 1) % 7, min (d - (d - 1) % 7 + 6) 3652059, per1 d _ h1 h2 rfl, by omega, by omega, per1 _ _ (by omega) (by omega) (by omega), per1 _ _ (by omega) (by omega) (by omega), ?_⟩
    by_cases hd : d - (d - 1) % 7 + 6 < 3652059
    · refine .inr ⟨by omega, ?_⟩
      rw [show min (d - (d - 1) % 7 + 6) 3652059 = d - (d - 1) % 7 + 6 by omega]
      exact ⟨_, per1 _ _ (by omega) (by omega) (by omega)⟩
    · exact .inl (by omega)
  · have l := dim_lo y m m1 m2
    have a1 : Is (d - n + 1) y m 1 := by rw [← num_first h]; exact is_num y1 y2 m1 m2 (by omega) (by omega)
    have a2 : Is (d - n + dim y m) y m (dim y m) := by rw [← num_last h]; exact is_num y1 y2 m1 m2 (by omega) (by omega)
    have p1 := per2 a1
    have p2 := per2 a2
    rw [show d - n + 1 - 1 + 1 = d - n + 1 by omega, show d - n + 1 - 1 + dim y m = d - n + dim y m by omega] at p1
    rw [show d - n + dim y m - dim y m + 1 = d - n + 1 by omega, show d - n + dim y m - dim y m + dim y m = d - n + dim y m by omega] at p2
    refine ⟨_, _, per2 h, by omega, by omega, p1, p2, ?_⟩
    have r := a2.range
    by_cases hd : d - n + dim y m = 3652059
    · exact .inl hd
    · refine .inr ⟨by omega, ?_⟩
      obtain ⟨a, b, c, k⟩ := is_ex (d - n + dim y m + 1) (by omega) (by omega)
      have hc : c = 1 := by
        rcases a2.next k with ⟨rfl, rfl, rfl⟩ | h | h
        · have := k.2.2.2.2.2.1
          omega
        · exact h.2.2.1
        · exact h.2.2.1
      subst hc
      have p3 := per2 k
      rw [show d - n + dim y m + 1 - 1 + 1 = d - n + dim y m + 1 by omega] at p3
      exact ⟨_, p3⟩
  · have i := h.inYear
    have l1 := dim_lo y 1 (by omega) (by omega)
    have l2 := dim_lo y 12 (by omega) (by omega)
    have a1 : Is (dby y + 1) y 1 1 := by rw [← num_new]; exact is_num y1 y2 (by omega) (by omega) (by omega) (by omega)
    have a2 : Is (dby (y + 1)) y 12 (dim y 12) := by rw [← num_old]; exact is_num y1 y2 (by omega) (by omega) (by omega) (by omega)
    refine ⟨_, _, per3 h, by omega, by omega, per3 a1, per3 a2, ?_⟩
    by_cases hy : y = 9999
    · subst hy
      exact .inl dby_end
    · have l3 := dim_lo (y + 1) 1 (by omega) (by omega)
      have a3 : Is (dby (y + 1) + 1) (y + 1) 1 1 := by rw [← num_new]; exact is_num (by omega) (by omega) (by omega) (by omega) (by omega) (by omega)
      have r := a3.range
      exact .inr ⟨by omega, _, per3 a3⟩
end Go.Proofs.YtdobdmbdibnppaaGreatDoor.Cal
