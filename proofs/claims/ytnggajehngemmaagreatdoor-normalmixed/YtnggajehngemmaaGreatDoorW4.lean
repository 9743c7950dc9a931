/-
  Plain arithmetic of the Gregorian calendar: no program, no model. What civil's functions are held against.
-/
import Derived.Test.YtnggajehngemmaaGreatDoorProg
import Derived.WalkKit
import Derived.WalkLawsBesides
import Derived.Lib.Hide
import Derived.Handy
import Derived.Laws.BytesArg
namespace Go.Proofs.YtnggajehngemmaaGreatDoor
namespace Cal

def lp (y : Int) : Bool := decide (y % 400 = 0) || (decide (y % 4 = 0) && !decide (y % 100 = 0))
def lpi (y : Int) : Int := if lp y = true then 1 else 0
def yr (y : Int) : Bool := decide (1 ≤ y) && decide (y ≤ 9999)
def leap (y : Int) : Bool := yr y && lp y
def dim (y m : Int) : Int := if m = 2 then 28 + lpi y else if m = 4 ∨ m = 6 ∨ m = 9 ∨ m = 11 then 30 else if 1 ≤ m ∧ m ≤ 12 then 31 else 0
def long (y m : Int) : Int := if 1 ≤ y ∧ y ≤ 9999 then dim y m else 0
def dby (y : Int) : Int := 365 * (y - 1) + (y - 1) / 4 - (y - 1) / 100 + (y - 1) / 400
def cum (y m : Int) : Int := if m ≤ 2 then 31 * (m - 1) else 59 + lpi y + (153 * (m - 3) + 2) / 5
def num (y m d : Int) : Int := dby y + cum y m + d
/-- (y, m, d) is a date, and n its number. -/
def Is (n y m d : Int) : Prop := 1 ≤ y ∧ y ≤ 9999 ∧ 1 ≤ m ∧ m ≤ 12 ∧ 1 ≤ d ∧ d ≤ dim y m ∧ n = num y m d

theorem lp_iff (y : Int) : lp y = true ↔ (y % 400 = 0 ∨ (y % 4 = 0 ∧ ¬ y % 100 = 0)) := by simp [lp]
theorem lpi_cases (y : Int) : (lpi y = 1 ∧ (y % 400 = 0 ∨ (y % 4 = 0 ∧ ¬ y % 100 = 0))) ∨ (lpi y = 0 ∧ ¬ (y % 400 = 0 ∨ (y % 4 = 0 ∧ ¬ y % 100 = 0))) := by
  by_cases h : lp y = true
  · exact .inl ⟨by simp [lpi, h], (lp_iff y).1 h⟩
  · exact .inr ⟨by simp [lpi, h], fun k => h ((lp_iff y).2 k)⟩
theorem lpi_01 (y : Int) : 0 ≤ lpi y ∧ lpi y ≤ 1 := by have := lpi_cases y; omega
theorem dim_cases (y m : Int) : (m = 2 ∧ dim y m = 28 + lpi y) ∨ ((m = 4 ∨ m = 6 ∨ m = 9 ∨ m = 11) ∧ dim y m = 30) ∨ ((m = 1 ∨ m = 3 ∨ m = 5 ∨ m = 7 ∨ m = 8 ∨ m = 10 ∨ m = 12) ∧ dim y m = 31) ∨ ((m < 1 ∨ 12 < m) ∧ dim y m = 0) := by
  unfold dim
  split
  · omega
  · split
    · omega
    · split <;> omega
theorem dim_le (y m : Int) : 0 ≤ dim y m ∧ dim y m ≤ 31 := by have := dim_cases y m; have := lpi_01 y; omega
theorem dim_lo (y m : Int) (h1 : 1 ≤ m) (h2 : m ≤ 12) : 28 ≤ dim y m := by have := dim_cases y m; have := lpi_01 y; omega
theorem long_of {y m : Int} (h1 : 1 ≤ y) (h2 : y ≤ 9999) : long y m = dim y m := by simp [long, h1, h2]
theorem long_le (y m : Int) : 0 ≤ long y m ∧ long y m ≤ 31 := by
  unfold long
  split
  · exact dim_le y m
  · omega
theorem cum_cases (y m : Int) : (m ≤ 2 ∧ cum y m = 31 * (m - 1)) ∨ (3 ≤ m ∧ cum y m = 59 + lpi y + (153 * (m - 3) + 2) / 5) := by
  unfold cum; split <;> omega
theorem cum_succ (y m : Int) (h1 : 1 ≤ m) (h2 : m ≤ 12) : cum y (m + 1) = cum y m + dim y m := by
  have := cum_cases y m; have := cum_cases y (m + 1); have := dim_cases y m
  omega
theorem cum_one (y : Int) : cum y 1 = 0 := by simp [cum]
theorem cum_end (y : Int) : cum y 13 = 365 + lpi y := by have := cum_cases y 13; omega
theorem cum_bd (y m : Int) (h1 : 1 ≤ m) (h2 : m ≤ 13) : 0 ≤ cum y m ∧ cum y m ≤ 366 := by
  have := cum_cases y m; have := lpi_01 y; omega
theorem cum_room (y m : Int) (h1 : 1 ≤ m) (h2 : m ≤ 12) : cum y m + dim y m ≤ 365 + lpi y := by
  have := cum_cases y m; have := dim_cases y m; have := lpi_01 y; omega
theorem cum_mono (y m k : Int) (h1 : 1 ≤ m) (h2 : m < k) (h3 : k ≤ 13) : cum y m + dim y m ≤ cum y k := by
  have := cum_cases y m; have := cum_cases y k; have := dim_cases y m; have := lpi_01 y; omega
theorem dby_succ (y : Int) : dby (y + 1) = dby y + 365 + lpi y := by
  have := lpi_cases y; unfold dby; omega
theorem dby_mono (a b : Int) (h : a ≤ b) : dby a ≤ dby b := by unfold dby; omega
theorem dby_one : dby 1 = 0 := by decide
theorem dby_end : dby 10000 = 3652059 := by decide
theorem dby_bd (y : Int) (h1 : 1 ≤ y) (h2 : y ≤ 10000) : 0 ≤ dby y ∧ dby y ≤ 3652059 := by unfold dby; omega
theorem dby_ages (y : Int) : dby (y + 400) = dby y + 146097 := by unfold dby; omega
theorem lp_ages (y : Int) : lp (y + 400) = lp y := by
  rw [Bool.eq_iff_iff, lp_iff, lp_iff]; omega
theorem lpi_ages (y : Int) : lpi (y + 400) = lpi y := by simp [lpi, lp_ages]
theorem dim_ages (y m : Int) : dim (y + 400) m = dim y m := by simp [dim, lpi_ages]
theorem cum_ages (y m : Int) : cum (y + 400) m = cum y m := by simp [cum, lpi_ages]

theorem is_num {y m d : Int} (h1 : 1 ≤ y) (h2 : y ≤ 9999) (h3 : 1 ≤ m) (h4 : m ≤ 12) (h5 : 1 ≤ d) (h6 : d ≤ dim y m) : Is (num y m d) y m d := ⟨h1, h2, h3, h4, h5, h6, rfl⟩
theorem Is.range {n y m d : Int} (h : Is n y m d) : 1 ≤ n ∧ n ≤ 3652059 := by
  obtain ⟨h1, h2, h3, h4, h5, h6, rfl⟩ := h
  have a := cum_room y m h3 h4
  have b := cum_bd y m h3 (by omega)
  have c := dby_succ y
  have e := dby_mono (y + 1) 10000 (by omega)
  have f := dby_bd y h1 (by omega)
  have g := dby_end
  unfold num
  omega
/-- a date lies in its year -/
theorem Is.inYear {n y m d : Int} (h : Is n y m d) : dby y < n ∧ n ≤ dby (y + 1) := by
  obtain ⟨h1, h2, h3, h4, h5, h6, rfl⟩ := h
  have a := cum_room y m h3 h4
  have b := cum_bd y m h3 (by omega)
  have c := dby_succ y
  unfold num
  omega
theorem Is.inj {n y m d y' m' d' : Int} (h : Is n y m d) (k : Is n y' m' d') : y = y' ∧ m = m' ∧ d = d' := by
  have a := h.inYear
  have b := k.inYear
  have hy : y = y' := by
    by_cases u : y < y'
    · have := dby_mono (y + 1) y' (by omega); omega
    · by_cases v : y' < y
      · have := dby_mono (y' + 1) y (by omega); omega
      · omega
  subst hy
  obtain ⟨h1, h2, h3, h4, h5, h6, hn⟩ := h
  obtain ⟨k1, k2, k3, k4, k5, k6, kn⟩ := k
  unfold num at hn kn
  have hm : m = m' := by
    by_cases u : m < m'
    · have := cum_mono y m m' h3 u (by omega); omega
    · by_cases v : m' < m
      · have := cum_mono y m' m k3 v (by omega); omega
      · omega
  subst hm
  exact ⟨rfl, rfl, by omega⟩

/- the year of a day by the cycles -/
def q4 (b : Int) : Int := b / 146097
def r4 (b : Int) : Int := b % 146097
def c1 (b : Int) : Int := if r4 b / 36524 < 3 then r4 b / 36524 else 3
def r1 (b : Int) : Int := r4 b - c1 b * 36524
def f4 (b : Int) : Int := r1 b / 1461
def r2 (b : Int) : Int := r1 b - f4 b * 1461
def t1 (b : Int) : Int := if r2 b / 365 < 3 then r2 b / 365 else 3
def rest (b : Int) : Int := r2 b - t1 b * 365
def year (b : Int) : Int := 1 + 400 * q4 b + 100 * c1 b + 4 * f4 b + t1 b
theorem c1_hi (b : Int) (h : 3 < b % 146097 / 36524) : c1 b = 3 := by unfold c1 r4; split <;> omega
theorem c1_lo (b : Int) (h : b % 146097 / 36524 ≤ 3) : c1 b = b % 146097 / 36524 := by unfold c1 r4; split <;> omega
theorem cut3 (x : Int) (h : x ≤ 3) : (if x < 3 then x else 3) = x := by split <;> omega
theorem cut3_hi (x : Int) (h : 3 < x) : (if x < 3 then x else 3) = 3 := by split <;> omega
theorem year_way (b c a t : Int) (hc : c1 b = c) (ha : c * 36524 = a) (ht : (if (b % 146097 - a - (b % 146097 - a) / 1461 * 1461) / 365 < 3 then (b % 146097 - a - (b % 146097 - a) / 1461 * 1461) / 365 else 3) = t) :
    year b = 1 + 400 * (b / 146097) + 100 * c + 4 * ((b % 146097 - a) / 1461) + t ∧ rest b = b % 146097 - a - (b % 146097 - a) / 1461 * 1461 - t * 365 := by
  subst hc ha ht
  exact ⟨rfl, rfl⟩
theorem steps (b : Int) (h0 : 0 ≤ b) (h1 : b ≤ 3652058) :
    0 ≤ q4 b ∧ q4 b ≤ 24 ∧ 0 ≤ r4 b ∧ r4 b ≤ 146096 ∧ b = 146097 * q4 b + r4 b ∧ 0 ≤ c1 b ∧ c1 b ≤ 3 ∧ 0 ≤ r1 b ∧ r1 b ≤ 36524 ∧ (r1 b = 36524 → c1 b = 3) ∧ r4 b = 36524 * c1 b + r1 b
    ∧ 0 ≤ f4 b ∧ f4 b ≤ 24 ∧ 0 ≤ r2 b ∧ r2 b ≤ 1460 ∧ r1 b = 1461 * f4 b + r2 b ∧ 0 ≤ t1 b ∧ t1 b ≤ 3 ∧ 0 ≤ rest b ∧ rest b ≤ 365 ∧ (rest b = 365 → t1 b = 3 ∧ r2 b = 1460) ∧ r2 b = 365 * t1 b + rest b := by
  have a1 : 0 ≤ q4 b ∧ q4 b ≤ 24 ∧ 0 ≤ r4 b ∧ r4 b ≤ 146096 ∧ b = 146097 * q4 b + r4 b := by unfold q4 r4; omega
  have a2 : 0 ≤ c1 b ∧ c1 b ≤ 3 ∧ 0 ≤ r1 b ∧ r1 b ≤ 36524 ∧ (r1 b = 36524 → c1 b = 3) ∧ r4 b = 36524 * c1 b + r1 b := by
    unfold r1 c1; split <;> omega
  have a3 : 0 ≤ f4 b ∧ f4 b ≤ 24 ∧ 0 ≤ r2 b ∧ r2 b ≤ 1460 ∧ r1 b = 1461 * f4 b + r2 b := by unfold r2 f4; omega
  have a4 : 0 ≤ t1 b ∧ t1 b ≤ 3 ∧ 0 ≤ rest b ∧ rest b ≤ 365 ∧ (rest b = 365 → t1 b = 3 ∧ r2 b = 1460) ∧ r2 b = 365 * t1 b + rest b := by
    unfold rest t1; split <;> omega
  exact ⟨a1.1, a1.2.1, a1.2.2.1, a1.2.2.2.1, a1.2.2.2.2, a2.1, a2.2.1, a2.2.2.1, a2.2.2.2.1, a2.2.2.2.2.1, a2.2.2.2.2.2, a3.1, a3.2.1, a3.2.2.1, a3.2.2.2.1, a3.2.2.2.2, a4⟩
theorem year_spec (b : Int) (h0 : 0 ≤ b) (h1 : b ≤ 3652058) : 1 ≤ year b ∧ year b ≤ 10000 ∧ dby (year b) + rest b = b ∧ 0 ≤ rest b ∧ rest b < 365 + lpi (year b) := by
  obtain ⟨s1, s2, s3, s4, s5, s6, s7, s8, s9, s10, s11, s12, s13, s14, s15, s16, s17, s18, s19, s20, s21, s22⟩ := steps b h0 h1
  have hl := lpi_cases (year b)
  have hy : year b = 1 + 400 * q4 b + 100 * c1 b + 4 * f4 b + t1 b := rfl
  generalize year b = y at *
  generalize q4 b = q at *
  generalize r4 b = r at *
  generalize c1 b = c at *
  generalize r1 b = ra at *
  generalize f4 b = f at *
  generalize r2 b = rb at *
  generalize t1 b = t at *
  generalize rest b = re at *
  generalize lpi y = l at *
  have e1 : (y - 1) / 4 = 100 * q + 25 * c + f := by omega
  have e2 : (y - 1) / 100 = 4 * q + c := by omega
  have e3 : (y - 1) / 400 = q := by omega
  refine ⟨by omega, by omega, ?_, s19, ?_⟩
  · unfold dby; omega
  · by_cases h : re = 365
    · obtain ⟨rfl, hrb⟩ := s21 h
      omega
    · omega
theorem year_le (b : Int) (h0 : 0 ≤ b) (h1 : b ≤ 3652058) : year b ≤ 9999 := by
  have := year_spec b h0 h1
  by_cases h : year b = 10000
  · have e := dby_end; rw [h] at this; omega
  · omega

/-- every day's number has a date -/
theorem is_ex (n : Int) (h1 : 1 ≤ n) (h2 : n ≤ 3652059) : ∃ y m d, Is n y m d := by
  have hy := year_spec (n - 1) (by omega) (by omega)
  have hl := year_le (n - 1) (by omega) (by omega)
  generalize year (n - 1) = y at *
  generalize rest (n - 1) = r at *
  have c13 := cum_end y
  have go : ∀ k : Nat, k ≤ 12 → r < cum y (k + 1) → ∃ m, 1 ≤ m ∧ m ≤ 12 ∧ cum y m ≤ r ∧ r < cum y m + dim y m := by
    intro k
    induction k with
    | zero => intro _ h; have := cum_one y; simp at h; omega
    | succ k ih =>
      intro hk h
      by_cases hc : r < cum y (k + 1)
      · exact ih (by omega) hc
      · have e := cum_succ y (k + 1) (by omega) (by omega)
        exact ⟨k + 1, by omega, by omega, by omega, by rw [← e]; exact_mod_cast h⟩
  obtain ⟨m, m1, m2, m3, m4⟩ := go 12 (by omega) (by show r < cum y 13; omega)
  exact ⟨y, m, r - cum y m + 1, hy.1, hl, m1, m2, by omega, by omega, by unfold num; omega⟩

/-- a date's year and what of it lies ahead, by the cycles -/
theorem Is.cycles {n y m d : Int} (h : Is n y m d) : year (n - 1) = y ∧ rest (n - 1) = cum y m + d - 1 := by
  have hr := h.range
  have a := year_spec (n - 1) (by omega) (by omega)
  have b := h.inYear
  have hy : year (n - 1) = y := by
    have c := dby_succ (year (n - 1))
    by_cases u : year (n - 1) < y
    · have := dby_mono (year (n - 1) + 1) y (by omega); omega
    · by_cases v : y < year (n - 1)
      · have := dby_mono (y + 1) (year (n - 1)) (by omega); omega
      · omega
  refine ⟨hy, ?_⟩
  rw [hy] at a
  obtain ⟨_, _, _, _, _, _, hn⟩ := h
  unfold num at hn
  omega

/-- the day behind a date's day -/
theorem Is.next {n y m d a b c : Int} (h : Is n y m d) (k : Is (n + 1) a b c) :
    (a = y ∧ b = m ∧ c = d + 1) ∨ (a = y ∧ b = m + 1 ∧ c = 1 ∧ d = dim y m) ∨ (a = y + 1 ∧ b = 1 ∧ c = 1 ∧ m = 12 ∧ d = 31) := by
  obtain ⟨h1, h2, h3, h4, h5, h6, hn⟩ := id h
  by_cases u : d < dim y m
  · have w : Is (n + 1) y m (d + 1) := ⟨h1, h2, h3, h4, by omega, by omega, by unfold num at hn ⊢; omega⟩
    exact .inl (k.inj w)
  · by_cases v : m < 12
    · have := cum_succ y m h3 h4
      have := dim_lo y (m + 1) (by omega) (by omega)
      have w : Is (n + 1) y (m + 1) 1 := ⟨h1, h2, by omega, by omega, by omega, by omega, by unfold num at hn ⊢; omega⟩
      obtain ⟨e1, e2, e3⟩ := k.inj w
      exact .inr (.inl ⟨e1, e2, e3, by omega⟩)
    · have e12 : m = 12 := by omega
      subst e12
      have d12 : dim y 12 = 31 := by have := dim_cases y 12; omega
      have := cum_cases y 12
      have := dby_succ y
      have c1 := cum_one (y + 1)
      have hr := k.range
      have hy9 : y ≤ 9998 := by
        by_cases z : y = 9999
        · have e := dby_end; subst z; unfold num at hn; simp at *; omega
        · omega
      have := dim_lo (y + 1) 1 (by omega) (by omega)
      have w : Is (n + 1) (y + 1) 1 1 := ⟨by omega, by omega, by omega, by omega, by omega, by omega, by unfold num at hn ⊢; omega⟩
      obtain ⟨e1, e2, e3⟩ := k.inj w
      exact .inr (.inr ⟨e1, e2, e3, rfl, by omega⟩)
end Cal
end Go.Proofs.YtnggajehngemmaaGreatDoor
/-
  Contracts of civil's and the law's leaf functions: what each returns, of any number.
-/
namespace Go.Proofs.YtnggajehngemmaaGreatDoor
open Go.RowKit

theorem ret_bool {a b : Bool} (h : a = b) : Ending.returned (.bool a) = .returned (.bool b) := by rw [h]
theorem ret_int {k : IntKind} {a b : Int} (h : a = b) : Ending.returned (.int k a) = .returned (.int k b) := by rw [h]
theorem ret_two {k : IntKind} {a b a' b' : Int} (h : a = a') (g : b = b') : Ending.returned (.tuple #[.int k a, .int k b]) = .returned (.tuple #[.int k a', .int k b']) := by rw [h, g]
theorem ret_three {k : IntKind} {a b c a' b' c' : Int} (h : a = a') (g : b = b') (f : c = c') : Ending.returned (.tuple #[.int k a, .int k b, .int k c]) = .returned (.tuple #[.int k a', .int k b', .int k c']) := by rw [h, g, f]

theorem isYear_yes (y : Int) (w : World) (h1 : 1 ≤ y) (h2 : y ≤ 9999) : Calls Tryz.prog 154 #[.int .i64 y] w fun e w' => e = .returned (.bool true) ∧ w = w' := by
  go_enter Tryz.func154, Tryz.ntmps154
  go_wp2
  go_ret
  exact ⟨rfl, rfl⟩
theorem isYear_no (y : Int) (w : World) (h : y < 1 ∨ 9999 < y) : Calls Tryz.prog 154 #[.int .i64 y] w fun e w' => e = .returned (.bool false) ∧ w = w' := by
  by_cases h1 : 1 ≤ y
  · have h2 : ¬ y ≤ 9999 := by omega
    clear h
    go_enter Tryz.func154, Tryz.ntmps154
    go_wp2
    go_ret
    exact ⟨rfl, rfl⟩
  · clear h
    go_enter Tryz.func154, Tryz.ntmps154
    go_wp2
    go_ret
    exact ⟨rfl, rfl⟩

/-- civil.Leap, of a year that there is. -/
theorem leap_year (y : Int) (w : World) (h1 : 1 ≤ y) (h2 : y ≤ 9999) : Calls Tryz.prog 155 #[.int .i64 y] w fun e w' => e = .returned (.bool (Cal.lp y)) ∧ w = w' := by
  by_cases a : y % 4 = 0
  · by_cases b : y % 100 = 0
    · by_cases c : y % 400 = 0
      all_goals
        have E := Lib.hid (show Cal.lp y = decide (y % 400 = 0) by simp [Cal.lp, a, b, c])
        have a' : (y % 4 == 0) = true := by simpa using a
        have b' : (y % 100 != 0) = false := by simpa using b
        have c' : (y % 400 == 0) = decide (y % 400 = 0) := rfl
        simp only [c] at c'
        have C := Lib.hid c
        clear a b c
        go_enter Tryz.func155, Tryz.ntmps155
        go_wp2
        go_ret
        exact ⟨ret_bool (by rw [E.out]; simp [C.out]), rfl⟩
    · have E := Lib.hid (show Cal.lp y = true by simp [Cal.lp, a, b])
      have a' : (y % 4 == 0) = true := by simpa using a
      have b' : (y % 100 != 0) = true := by simpa using b
      clear a b
      go_enter Tryz.func155, Tryz.ntmps155
      go_wp2
      go_ret
      exact ⟨ret_bool E.out.symm, rfl⟩
  · have E := Lib.hid (show Cal.lp y = false by
      rw [Bool.eq_false_iff]; intro h; rw [Cal.lp_iff] at h; omega)
    have a' : (y % 4 == 0) = false := by simpa using a
    clear a
    go_enter Tryz.func155, Tryz.ntmps155
    go_wp2
    go_ret
    exact ⟨ret_bool E.out.symm, rfl⟩

/-- how many days each month has in a common year, as civil's table has it -/
def mon (m : Int) : Int := if m = 2 then 28 else if m = 4 ∨ m = 6 ∨ m = 9 ∨ m = 11 then 30 else 31
/-- the world holds civil's table of months -/
def Months (w : World) : Prop := ∀ m : Int, 1 ≤ m → m ≤ 12 → w.cell? ⟨3, m.toNat - 1, none⟩ = some (.int .i64 (mon m))
theorem Months.below {w w' : World} {B : Nat} (h : Months w) (hb : Below B w w') (hB : 3 < B) : Months w' := fun m h1 h2 => by
  rw [hb.cell (p := ⟨3, m.toNat - 1, none⟩) hB]; exact h m h1 h2

theorem long_any (y m : Int) (w : World) (hM : Months w) : Calls Tryz.prog 128 #[.int .i64 y, .int .i64 m] w fun e w' => e = .returned (.int .i64 (Cal.long y m)) ∧ w = w' := by
  by_cases hy : 1 ≤ y ∧ y ≤ 9999
  · obtain ⟨y1, y2⟩ := hy
    by_cases hm : 1 ≤ m ∧ m ≤ 12
    · obtain ⟨m1, m2⟩ := hm
      have hc := hM m m1 m2
      by_cases h2 : m = 2
      · subst h2
        have E := Lib.hid (Cal.long_of (m := 2) y1 y2)
        have hc' : w.cell? ⟨3, 1, none⟩ = some (.int .i64 28) := hc
        clear hc
        cases hl : Cal.lp y
        all_goals
          have L := Lib.hid hl
          clear hl
          go_enter Tryz.func128, Tryz.ntmps128
          go_wp2_with (first | (go_at_call 154; refine (isYear_yes _ _ (by omega) (by omega)).mono ?_; rintro e w' ⟨rfl, rfl⟩) | (go_at_call 155; refine (leap_year _ _ (by omega) (by omega)).mono ?_; rintro e w' ⟨rfl, rfl⟩; rw [L.out]))
          go_ret
          exact ⟨ret_int (by rw [E.out]; simp [Cal.dim, Cal.lpi, L.out]), rfl⟩
      · have E := Lib.hid (show Cal.long y m = mon m by
          rw [Cal.long_of y1 y2]; have := Cal.dim_cases y m; unfold mon; split <;> (try split) <;> omega)
        have h2' : (m == 2) = false := by simpa using h2
        clear h2
        go_enter Tryz.func128, Tryz.ntmps128
        go_wp2_with (go_at_call 154; refine (isYear_yes _ _ (by omega) (by omega)).mono ?_; rintro e w' ⟨rfl, rfl⟩)
        go_ret
        exact ⟨ret_int E.out.symm, rfl⟩
    · have E := Lib.hid (show Cal.long y m = 0 by rw [Cal.long_of y1 y2]; have := Cal.dim_cases y m; omega)
      by_cases m1 : 1 ≤ m
      · have m2 : ¬ m ≤ 12 := by omega
        clear hm hM
        go_enter Tryz.func128, Tryz.ntmps128
        go_wp2_with (go_at_call 154; refine (isYear_yes _ _ (by omega) (by omega)).mono ?_; rintro e w' ⟨rfl, rfl⟩)
        go_ret
        exact ⟨ret_int E.out.symm, rfl⟩
      · clear hm hM
        go_enter Tryz.func128, Tryz.ntmps128
        go_wp2_with (go_at_call 154; refine (isYear_yes _ _ (by omega) (by omega)).mono ?_; rintro e w' ⟨rfl, rfl⟩)
        go_ret
        exact ⟨ret_int E.out.symm, rfl⟩
  · have E := Lib.hid (show Cal.long y m = 0 by simp [Cal.long, hy])
    have hy' : y < 1 ∨ 9999 < y := by omega
    clear hy hM
    go_enter Tryz.func128, Tryz.ntmps128
    go_wp2_with (go_at_call 154; refine (isYear_no _ _ hy').mono ?_; rintro e w' ⟨rfl, rfl⟩)
    go_ret
    exact ⟨ret_int E.out.symm, rfl⟩

theorem daysBefore_any (y : Int) (w : World) (h1 : 1 ≤ y) (h2 : y ≤ 10000) : Calls Tryz.prog 129 #[.int .i64 y] w fun e w' => e = .returned (.int .i64 (Cal.dby y)) ∧ w = w' := by
  go_enter Tryz.func129, Tryz.ntmps129
  go_wp2
  go_ret
  exact ⟨ret_int (by unfold Cal.dby; omega), rfl⟩

theorem valid_yes (n : Int) (w : World) (h1 : 1 ≤ n) (h2 : n ≤ 3652059) : Calls Tryz.prog 61 #[.int .i64 n] w fun e w' => e = .returned (.bool true) ∧ w = w' := by
  go_enter Tryz.func61, Tryz.ntmps61
  go_wp2
  go_ret
  exact ⟨rfl, rfl⟩
theorem valid_no (n : Int) (w : World) (h : n < 1 ∨ 3652059 < n) : Calls Tryz.prog 61 #[.int .i64 n] w fun e w' => e = .returned (.bool false) ∧ w = w' := by
  by_cases h1 : 1 ≤ n
  · have h2 : ¬ n ≤ 3652059 := by omega
    clear h
    go_enter Tryz.func61, Tryz.ntmps61
    go_wp2
    go_ret
    exact ⟨rfl, rfl⟩
  · clear h
    go_enter Tryz.func61, Tryz.ntmps61
    go_wp2
    go_ret
    exact ⟨rfl, rfl⟩

theorem weekday_yes (n : Int) (w : World) (h1 : 1 ≤ n) (h2 : n ≤ 3652059) : Calls Tryz.prog 82 #[.int .i64 n] w fun e w' => e = .returned (.int .i64 ((n - 1) % 7)) ∧ w = w' := by
  go_enter Tryz.func82, Tryz.ntmps82
  go_wp2_with (go_at_call 61; refine (valid_yes _ _ (by omega) (by omega)).mono ?_; rintro e w' ⟨rfl, rfl⟩)
  go_ret
  exact ⟨rfl, rfl⟩
theorem weekday_no (n : Int) (w : World) (h : n < 1 ∨ 3652059 < n) : Calls Tryz.prog 82 #[.int .i64 n] w fun e w' => e = .returned (.int .i64 0) ∧ w = w' := by
  go_enter Tryz.func82, Tryz.ntmps82
  go_wp2_with (go_at_call 61; refine (valid_no _ _ h).mono ?_; rintro e w' ⟨rfl, rfl⟩)
  go_ret
  exact ⟨rfl, rfl⟩


/-- yearOf, of so many days before: its year, and how many of these are in it -/
theorem yearOf_any (b : Int) (w : World) (h0 : 0 ≤ b) (h1 : b ≤ 3652058) : Calls Tryz.prog 156 #[.int .i64 b] w fun e w' => e = .returned (.tuple #[.int .i64 (Cal.year b), .int .i64 (Cal.rest b)]) ∧ w = w' := by
  go_enter Tryz.func156, Tryz.ntmps156
  go_wp2
  all_goals go_ret2
  · obtain ⟨e1, e2⟩ := Cal.year_way b 3 109572 3 (Cal.c1_hi b ‹_›) (by decide) (Cal.cut3_hi _ ‹_›)
    exact ⟨ret_two (by rw [e1]; omega) (by rw [e2]; omega), rfl⟩
  · obtain ⟨e1, e2⟩ := Cal.year_way b _ _ 3 (Cal.c1_lo b ‹_›) rfl (Cal.cut3_hi _ ‹_›)
    exact ⟨ret_two (by rw [e1]) (by rw [e2]; omega), rfl⟩
  · obtain ⟨e1, e2⟩ := Cal.year_way b _ _ _ (Cal.c1_lo b ‹_›) rfl (Cal.cut3 _ ‹_›)
    exact ⟨ret_two e1.symm e2.symm, rfl⟩

end Go.Proofs.YtnggajehngemmaaGreatDoor
/-
  Contracts of civil.Of and Day.Date: a date's number, a number's date.
-/
namespace Go.Proofs.YtnggajehngemmaaGreatDoor
open Go.RowKit

theorem ret_of {a b : Int} {t : Bool} (h : a = b) : Ending.returned (.tuple #[.int .i64 a, .bool t]) = .returned (.tuple #[.int .i64 b, .bool t]) := by rw [h]

theorem of_no (y m d : Int) (w : World) (hM : Months w) (h : d < 1 ∨ Cal.long y m < d) : Calls Tryz.prog 80 #[.int .i64 y, .int .i64 m, .int .i64 d] w fun e w' => e = .returned (.tuple #[.int .i64 0, .bool false]) ∧ w = w' := by
  by_cases h1 : d < 1
  · clear h
    go_enter Tryz.func80, Tryz.ntmps80
    go_wp2
    go_ret2
    exact ⟨rfl, rfl⟩
  · have h2 : Cal.long y m < d := by omega
    clear h
    go_enter Tryz.func80, Tryz.ntmps80
    go_wp2_with (go_at_call 128; refine (long_any _ _ _ hM).mono ?_; rintro e w' ⟨rfl, rfl⟩)
    go_ret2
    exact ⟨rfl, rfl⟩

theorem of_yes (y m d : Int) (w : World) (hM : Months w) (y1 : 1 ≤ y) (y2 : y ≤ 9999) (m1 : 1 ≤ m) (m2 : m ≤ 12) (d1 : 1 ≤ d) (d2 : d ≤ Cal.dim y m) : Calls Tryz.prog 80 #[.int .i64 y, .int .i64 m, .int .i64 d] w fun e w' => e = .returned (.tuple #[.int .i64 (Cal.num y m d), .bool true]) ∧ w = w' := by
  have e := Cal.long_of (m := m) y1 y2
  have h2 : d ≤ Cal.long y m := by omega
  have db := Cal.dby_bd y y1 (by omega)
  have dl := Cal.dim_le y m
  clear e
  go_enter Tryz.func80, Tryz.ntmps80
  go_wp2_with (first | (go_at_call 128; refine (long_any _ _ _ hM).mono ?_; rintro e w' ⟨rfl, rfl⟩) | (go_at_call 129; refine (daysBefore_any _ _ (by omega) (by omega)).mono ?_; rintro e w' ⟨rfl, rfl⟩))
  go_loop [8, 9] (fun n k => ∃ i : Int, 1 ≤ i ∧ i ≤ m ∧ k = .int .i64 i ∧ n = .int .i64 (Cal.dby y + d + Cal.cum y i)) (fun _ k => (m - intOf k).toNat)
  case atStart => exact ⟨1, by omega, by omega, rfl, by rw [Cal.cum_one]; simp⟩
  case round =>
    obtain ⟨i, i1, i2, rfl, rfl⟩ := hrel
    have cb := Cal.cum_bd y i i1 (by omega)
    by_cases hlt : i < m
    · have ll := Cal.long_le y i
      have CS := Lib.hid (show Cal.cum y (i + 1) = Cal.cum y i + Cal.long y i by rw [Cal.long_of y1 y2]; exact Cal.cum_succ y i i1 (by omega))
      go_wp2_with (go_at_call 128; refine (long_any _ _ _ hM).mono ?_; rintro e w' ⟨rfl, rfl⟩)
      go_round
      case rel => exact ⟨i + 1, by omega, by omega, rfl, by rw [CS.out]; go_num⟩
      case measure => simp [intOf]; omega
    · have hi : i = m := by omega
      have HI := Lib.hid hi
      clear hi
      go_wp2
      go_ret2
      exact ⟨ret_of (by rw [HI.out]; unfold Cal.num; omega), rfl⟩

theorem date_no (n : Int) (w : World) (h : n < 1 ∨ 3652059 < n) : Calls Tryz.prog 130 #[.int .i64 n] w fun e w' => e = .returned (.tuple #[.int .i64 0, .int .i64 0, .int .i64 0]) ∧ w = w' := by
  go_enter Tryz.func130, Tryz.ntmps130
  go_wp2_with (go_at_call 61; refine (valid_no _ _ h).mono ?_; rintro e w' ⟨rfl, rfl⟩)
  go_ret3
  exact ⟨rfl, rfl⟩

theorem date_yes (n y m d : Int) (w : World) (hM : Months w) (h : Cal.Is n y m d) : Calls Tryz.prog 130 #[.int .i64 n] w fun e w' => e = .returned (.tuple #[.int .i64 y, .int .i64 m, .int .i64 d]) ∧ w = w' := by
  obtain ⟨n1, n2⟩ := h.range
  obtain ⟨hy, hr⟩ := h.cycles
  have HY := Lib.hid hy
  have HR := Lib.hid hr
  clear hy hr
  obtain ⟨y1, y2, m1, m2, d1, d2, hn⟩ := h
  clear hn
  have cm := Cal.cum_bd y m m1 (by omega)
  have dl := Cal.dim_le y m
  go_enter Tryz.func130, Tryz.ntmps130
  go_wp2_with (first | (go_at_call 61; refine (valid_yes _ _ (by omega) (by omega)).mono ?_; rintro e w' ⟨rfl, rfl⟩) | (go_at_call 156; refine (yearOf_any _ _ (by omega) (by omega)).mono ?_; rintro e w' ⟨rfl, rfl⟩; rw [HY.out, HR.out]))
  go_loop [3, 4] (fun k r => ∃ i : Int, 1 ≤ i ∧ i ≤ m ∧ k = .int .i64 i ∧ r = .int .i64 (Cal.cum y m + d - 1 - Cal.cum y i)) (fun k _ => (m - intOf k).toNat)
  case atStart => exact ⟨1, by omega, by omega, rfl, by rw [Cal.cum_one]; simp⟩
  case round =>
    obtain ⟨i, i1, i2, rfl, rfl⟩ := hrel
    have cb := Cal.cum_bd y i i1 (by omega)
    have ll := Cal.long_le y i
    by_cases hlt : i < m
    · have CS := Lib.hid (show Cal.cum y (i + 1) = Cal.cum y i + Cal.long y i by rw [Cal.long_of y1 y2]; exact Cal.cum_succ y i i1 (by omega))
      have cmo : Cal.cum y i + Cal.long y i ≤ Cal.cum y m := by rw [Cal.long_of y1 y2]; exact Cal.cum_mono y i m i1 hlt (by omega)
      have hge : Cal.long y i ≤ Cal.cum y m + d - 1 - Cal.cum y i := by omega
      go_wp2_with (go_at_call 128; refine (long_any _ _ _ hM).mono ?_; rintro e w' ⟨rfl, rfl⟩)
      go_round
      case rel => exact ⟨i + 1, by omega, by omega, rfl, by rw [CS.out]; go_num⟩
      case measure => simp [intOf]; omega
    · have hi : i = m := by omega
      subst hi
      have hlo : Cal.cum y i + d - 1 - Cal.cum y i < Cal.long y i := by rw [Cal.long_of y1 y2]; omega
      go_wp2_with (go_at_call 128; refine (long_any _ _ _ hM).mono ?_; rintro e w' ⟨rfl, rfl⟩)
      go_ret3
      exact ⟨ret_three rfl rfl (by omega), rfl⟩

end Go.Proofs.YtnggajehngemmaaGreatDoor
/-
  Contracts of civil.padded, Day.Text and the law's digits: numbers and days as texts.
-/
namespace Go.Proofs.YtnggajehngemmaaGreatDoor
open Go.RowKit

theorem ret_str {a b : ByteArray} (h : a = b) : Ending.returned (.string a) = .returned (.string b) := by rw [h]

/-- a number's last digit, as a byte -/
def dig (n : Int) : UInt8 := UInt8.ofNat (48 + n % 10).toNat
def pad2 (n : Int) : ByteArray := ⟨#[dig (n / 10), dig n]⟩
def pad4 (n : Int) : ByteArray := ⟨#[dig (n / 1000), dig (n / 100), dig (n / 10), dig n]⟩
/-- a date's text -/
def txt (y m d : Int) : ByteArray := ⟨#[dig (y / 1000), dig (y / 100), dig (y / 10), dig y, 45, dig (m / 10), dig m, 45, dig (d / 10), dig d]⟩

theorem encode_dig (n : Int) : Utf8.encode (48 + n % 10) = ⟨#[dig n]⟩ := by
  unfold dig
  have h1 : 0 ≤ n % 10 := by omega
  have h2 : n % 10 < 10 := by omega
  generalize n % 10 = r at *
  have : r = 0 ∨ r = 1 ∨ r = 2 ∨ r = 3 ∨ r = 4 ∨ r = 5 ∨ r = 6 ∨ r = 7 ∨ r = 8 ∨ r = 9 := by omega
  rcases this with rfl | rfl | rfl | rfl | rfl | rfl | rfl | rfl | rfl | rfl <;> decide
theorem dig_nn (n : Int) (k : Int) (h : n / 10 / 10 = k) : dig (n / 10 / 10) = dig k := by rw [h]
theorem pad4_of (n : Int) : strOfNums [48 + n / 10 / 10 / 10 % 10, 48 + n / 10 / 10 % 10, 48 + n / 10 % 10, 48 + n % 10] = pad4 n := by
  have e1 : n / 10 / 10 = n / 100 := by omega
  have e2 : n / 100 / 10 = n / 1000 := by omega
  rw [e1, e2]; rfl
theorem pad2_of (n : Int) : strOfNums [48 + n / 10 % 10, 48 + n % 10] = pad2 n := rfl

theorem convert4 (w : World) (a b c d : Int) : (convert 24 9 (.slice (some ⟨w.heap.size, 0, none⟩) 4 4)).run Tryz.prog (w.alloc (.cells #[.int .u8 a, .int .u8 b, .int .u8 c, .int .u8 d] 5)) = .ok (.string (strOfNums [a, b, c, d])) (w.alloc (.cells #[.int .u8 a, .int .u8 b, .int .u8 c, .int .u8 d] 5)) := by
  refine run_convert_bytes_arg _ 24 5 Tryz.underlying24 Tryz.underlying5 _ 0 4 4 [a, b, c, d] rfl (fun i hi => ?_) 9 Tryz.underlying9
  match i, hi with
  | 0, _ => simp
  | 1, _ => simp
  | 2, _ => simp
  | 3, _ => simp
theorem convert2 (w : World) (a b : Int) : (convert 24 9 (.slice (some ⟨w.heap.size, 0, none⟩) 2 2)).run Tryz.prog (w.alloc (.cells #[.int .u8 a, .int .u8 b] 5)) = .ok (.string (strOfNums [a, b])) (w.alloc (.cells #[.int .u8 a, .int .u8 b] 5)) := by
  refine run_convert_bytes_arg _ 24 5 Tryz.underlying24 Tryz.underlying5 _ 0 2 2 [a, b] rfl (fun i hi => ?_) 9 Tryz.underlying9
  match i, hi with
  | 0, _ => simp
  | 1, _ => simp

set_option maxHeartbeats 400000 in
theorem padded4 (n : Int) (w : World) (h0 : 0 ≤ n) (h1 : n ≤ 9999) : Calls Tryz.prog 131 #[.int .i64 n, .int .i64 4] w fun e w' => e = .returned (.string (pad4 n)) ∧ Below w.heap.size w w' := by
  have hmk : ∀ w, (Instr.makeSlice 24 (.int .i64 4) (.int .i64 4)).run Tryz.prog w = .ok (.slice (some ⟨w.heap.size, 0, none⟩) 4 4) (w.alloc (.cells #[.int .u8 0, .int .u8 0, .int .u8 0, .int .u8 0] 5)) := fun _ => by kernel_rfl
  have hcv := convert4 w
  go_enter Tryz.func131, Tryz.ntmps131
  go_wp2
  refine wp_loop_rounds 5 ?_
  rw [rounds_succ]; go_wp2
  rw [rounds_succ]; go_wp2
  rw [rounds_succ]; go_wp2
  rw [rounds_succ]; go_wp2
  rw [rounds_succ]; go_wp2
  go_ret
  exact ⟨ret_str (pad4_of n), by go_grown⟩
set_option maxHeartbeats 400000 in
theorem padded2 (n : Int) (w : World) (h0 : 0 ≤ n) (h1 : n ≤ 99) : Calls Tryz.prog 131 #[.int .i64 n, .int .i64 2] w fun e w' => e = .returned (.string (pad2 n)) ∧ Below w.heap.size w w' := by
  have hmk : ∀ w, (Instr.makeSlice 24 (.int .i64 2) (.int .i64 2)).run Tryz.prog w = .ok (.slice (some ⟨w.heap.size, 0, none⟩) 2 2) (w.alloc (.cells #[.int .u8 0, .int .u8 0] 5)) := fun _ => by kernel_rfl
  have hcv := convert2 w
  go_enter Tryz.func131, Tryz.ntmps131
  go_wp2
  refine wp_loop_rounds 3 ?_
  rw [rounds_succ]; go_wp2
  rw [rounds_succ]; go_wp2
  rw [rounds_succ]; go_wp2
  go_ret
  exact ⟨ret_str (pad2_of n), by go_grown⟩

theorem text_no (n : Int) (w : World) (h : n < 1 ∨ 3652059 < n) : Calls Tryz.prog 81 #[.int .i64 n] w fun e w' => e = .returned (.string ⟨#[]⟩) ∧ w = w' := by
  go_enter Tryz.func81, Tryz.ntmps81
  go_wp2_with (go_at_call 61; refine (valid_no _ _ h).mono ?_; rintro e w' ⟨rfl, rfl⟩)
  go_ret
  exact ⟨rfl, rfl⟩

theorem pad4_size (n : Int) : (pad4 n).size = 4 := rfl
theorem pad2_size (n : Int) : (pad2 n).size = 2 := rfl
theorem txt_of (y m d : Int) : pad4 y ++ ⟨#[45]⟩ ++ pad2 m ++ ⟨#[45]⟩ ++ pad2 d = txt y m d := rfl

set_option maxHeartbeats 400000 in
theorem text_yes (n y m d : Int) (w : World) (hM : Months w) (h : Cal.Is n y m d) : Calls Tryz.prog 81 #[.int .i64 n] w fun e w' => e = .returned (.string (txt y m d)) ∧ Below w.heap.size w w' := by
  obtain ⟨n1, n2⟩ := h.range
  obtain ⟨y1, y2, m1, m2, d1, d2, hn⟩ := id h
  clear hn
  have dl := Cal.dim_le y m
  have z4 : (pad4 y).size ≤ 4 := Nat.le_of_eq (pad4_size y)
  have z2 : (pad2 m).size ≤ 2 := Nat.le_of_eq (pad2_size m)
  have z3 : (pad2 d).size ≤ 2 := Nat.le_of_eq (pad2_size d)
  go_enter Tryz.func81, Tryz.ntmps81
  go_wp2_with fail
  refine (valid_yes _ _ (by omega) (by omega)).mono ?_
  rintro e w' ⟨rfl, rfl⟩
  go_wp2_with fail
  refine (date_yes _ y m d _ hM h).mono ?_
  rintro e w' ⟨rfl, rfl⟩
  go_wp2_with fail
  refine (padded4 _ _ (by omega) (by omega)).mono ?_
  rintro e wa ⟨rfl, b1⟩
  go_wp2_with fail
  refine (padded2 _ _ (by omega) (by omega)).mono ?_
  rintro e wb ⟨rfl, b2⟩
  go_wp2_with fail
  refine (padded2 _ _ (by omega) (by omega)).mono ?_
  rintro e wc ⟨rfl, b3⟩
  go_wp2
  go_ret
  exact ⟨ret_str (txt_of y m d), b1.trans ((b2.mono b1.size).trans (b3.mono (Nat.le_trans b1.size b2.size)))⟩
end Go.Proofs.YtnggajehngemmaaGreatDoor
/-
  The law's Awake: the fixed fact of the chapter's example.
-/
namespace Go.Proofs.YtnggajehngemmaaGreatDoor
open Go.RowKit

theorem Months.pos {w : World} (h : Months w) : 3 < w.heap.size := by
  have h1 := h 1 (by omega) (by omega)
  rcases Nat.lt_or_ge 3 w.heap.size with h0 | h0
  · exact h0
  · have e : w.heap[3]? = none := Array.getElem?_eq_none h0
    simp [World.cell?, e] at h1
theorem Months.grown {w w' : World} (h : Months w) (hb : Below w.heap.size w w') : Months w' := h.below hb h.pos

theorem one_is : Cal.Is 1 1 1 1 := by
  refine ⟨by decide, by decide, by decide, by decide, by decide, by decide, by decide⟩
theorem txt_one : txt 1 1 1 = ⟨#[48, 48, 48, 49, 45, 48, 49, 45, 48, 49]⟩ := by decide
theorem num_one : Cal.num 1 1 1 = 1 := by decide

set_option maxHeartbeats 400000 in
theorem awake (w : World) (hM : Months w) : Calls Tryz.prog 69 #[] w fun e w' => e = .returned (.bool true) ∧ Below w.heap.size w w' := by
  go_enter Tryz.func69, Tryz.ntmps69
  go_wp2_with fail
  refine (of_yes 1 1 1 _ hM (by decide) (by decide) (by decide) (by decide) (by decide) (by decide)).mono ?_
  rintro e w' ⟨rfl, rfl⟩
  rw [num_one]
  go_wp2_with fail
  refine (text_yes 1 1 1 1 _ hM one_is).mono ?_
  rintro e wa ⟨rfl, b1⟩
  rw [txt_one]
  go_wp2_with fail
  refine (weekday_yes 1 _ (by decide) (by decide)).mono ?_
  rintro e w' ⟨rfl, rfl⟩
  go_wp2_with fail
  refine (weekday_yes 8 _ (by decide) (by decide)).mono ?_
  rintro e w' ⟨rfl, rfl⟩
  go_wp2_with fail
  refine (weekday_yes 7 _ (by decide) (by decide)).mono ?_
  rintro e w' ⟨rfl, rfl⟩
  go_wp2
  go_ret
  exact ⟨rfl, b1⟩
end Go.Proofs.YtnggajehngemmaaGreatDoor
