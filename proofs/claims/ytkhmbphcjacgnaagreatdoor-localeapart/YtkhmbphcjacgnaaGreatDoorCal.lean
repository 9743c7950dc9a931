/-
  Plain arithmetic of the Gregorian calendar: no program, no model. What civil's functions are held against.
-/
namespace Go.Proofs.YtkhmbphcjacgnaaGreatDoor
namespace Cal

def lp (y : Int) : Bool := decide (y % 400 = 0) || (decide (y % 4 = 0) && !decide (y % 100 = 0))
def lpi (y : Int) : Int := if lp y = true then 1 else 0
def dim (y m : Int) : Int := if m = 2 then 28 + lpi y else if m = 4 ∨ m = 6 ∨ m = 9 ∨ m = 11 then 30 else if 1 ≤ m ∧ m ≤ 12 then 31 else 0
def long (y m : Int) : Int := if 1 ≤ y ∧ y ≤ 9999 then dim y m else 0
def dby (y : Int) : Int := 365 * (y - 1) + (y - 1) / 4 - (y - 1) / 100 + (y - 1) / 400
def cum (y m : Int) : Int := if m ≤ 2 then 31 * (m - 1) else 59 + lpi y + (153 * (m - 3) + 2) / 5
def num (y m d : Int) : Int := dby y + cum y m + d
/-- (y, m, d) is a date, and n its number. -/
def Is (n y m d : Int) : Prop := 1 ≤ y ∧ y ≤ 9999 ∧ 1 ≤ m ∧ m ≤ 12 ∧ 1 ≤ d ∧ d ≤ dim y m ∧ n = num y m d

theorem lp_iff (y : Int) : lp y = true ↔ (y % 400 = 0 ∨ (y % 4 = 0 ∧ ¬ y % 100 = 0)) := by simp [lp]
theorem lpi_cases (y : Int) : (lpi y = 1 ∧ (y % 400 = 0 ∨ (y % 4 = 0 ∧ ¬ y % 100 = 0))) ∨ (lpi y = 0 ∧ ¬ (y % 400 = 0 ∨ (y % 4 = 0 ∧ ¬ y % 100 = 0))) := by
  by_cases h : lp y = true
  · exact .inl ⟨by simp [lpi, h], (lp_iff y).1 h⟩
  · exact .inr ⟨by simp [lpi, h], fun k => h ((lp_iff y).2 k)⟩
theorem lpi_01 (y : Int) : 0 ≤ lpi y ∧ lpi y ≤ 1 := by have := lpi_cases y; omega
theorem dim_cases (y m : Int) : (m = 2 ∧ dim y m = 28 + lpi y) ∨ ((m = 4 ∨ m = 6 ∨ m = 9 ∨ m = 11) ∧ dim y m = 30) ∨ ((m = 1 ∨ m = 3 ∨ m = 5 ∨ m = 7 ∨ m = 8 ∨ m = 10 ∨ m = 12) ∧ dim y m = 31) ∨ ((m < 1 ∨ 12 < m) ∧ dim y m = 0) := by
  unfold dim
  split
  · omega
  · split
    · omega
    · split <;> omega
theorem dim_le (y m : Int) : 0 ≤ dim y m ∧ dim y m ≤ 31 := by have := dim_cases y m; have := lpi_01 y; omega
theorem dim_lo (y m : Int) (h1 : 1 ≤ m) (h2 : m ≤ 12) : 28 ≤ dim y m := by have := dim_cases y m; have := lpi_01 y; omega
theorem long_of {y m : Int} (h1 : 1 ≤ y) (h2 : y ≤ 9999) : long y m = dim y m := by simp [long, h1, h2]
theorem long_le (y m : Int) : 0 ≤ long y m ∧ long y m ≤ 31 := by
  unfold long
  split
  · exact dim_le y m
  · omega
theorem cum_cases (y m : Int) : (m ≤ 2 ∧ cum y m = 31 * (m - 1)) ∨ (3 ≤ m ∧ cum y m = 59 + lpi y + (153 * (m - 3) + 2) / 5) := by
  unfold cum; split <;> omega
theorem cum_succ (y m : Int) (h1 : 1 ≤ m) (h2 : m ≤ 12) : cum y (m + 1) = cum y m + dim y m := by
  have := cum_cases y m; have := cum_cases y (m + 1); have := dim_cases y m
  omega
theorem cum_one (y : Int) : cum y 1 = 0 := by simp [cum]
theorem cum_bd (y m : Int) (h1 : 1 ≤ m) (h2 : m ≤ 13) : 0 ≤ cum y m ∧ cum y m ≤ 366 := by
  have := cum_cases y m; have := lpi_01 y; omega
theorem cum_room (y m : Int) (h1 : 1 ≤ m) (h2 : m ≤ 12) : cum y m + dim y m ≤ 365 + lpi y := by
  have := cum_cases y m; have := dim_cases y m; have := lpi_01 y; omega
theorem cum_mono (y m k : Int) (h1 : 1 ≤ m) (h2 : m < k) (h3 : k ≤ 13) : cum y m + dim y m ≤ cum y k := by
  have := cum_cases y m; have := cum_cases y k; have := dim_cases y m; have := lpi_01 y; omega
theorem dby_succ (y : Int) : dby (y + 1) = dby y + 365 + lpi y := by
  have := lpi_cases y; unfold dby; omega
theorem dby_mono (a b : Int) (h : a ≤ b) : dby a ≤ dby b := by unfold dby; omega
theorem dby_end : dby 10000 = 3652059 := by decide
theorem dby_bd (y : Int) (h1 : 1 ≤ y) (h2 : y ≤ 10000) : 0 ≤ dby y ∧ dby y ≤ 3652059 := by unfold dby; omega
theorem Is.range {n y m d : Int} (h : Is n y m d) : 1 ≤ n ∧ n ≤ 3652059 := by
  obtain ⟨h1, h2, h3, h4, h5, h6, rfl⟩ := h
  have a := cum_room y m h3 h4
  have b := cum_bd y m h3 (by omega)
  have c := dby_succ y
  have e := dby_mono (y + 1) 10000 (by omega)
  have f := dby_bd y h1 (by omega)
  have g := dby_end
  unfold num
  omega
/-- a date lies in its year -/
theorem Is.inYear {n y m d : Int} (h : Is n y m d) : dby y < n ∧ n ≤ dby (y + 1) := by
  obtain ⟨h1, h2, h3, h4, h5, h6, rfl⟩ := h
  have a := cum_room y m h3 h4
  have b := cum_bd y m h3 (by omega)
  have c := dby_succ y
  unfold num
  omega
theorem Is.inj {n y m d y' m' d' : Int} (h : Is n y m d) (k : Is n y' m' d') : y = y' ∧ m = m' ∧ d = d' := by
  have a := h.inYear
  have b := k.inYear
  have hy : y = y' := by
    by_cases u : y < y'
    · have := dby_mono (y + 1) y' (by omega); omega
    · by_cases v : y' < y
      · have := dby_mono (y' + 1) y (by omega); omega
      · omega
  subst hy
  obtain ⟨h1, h2, h3, h4, h5, h6, hn⟩ := h
  obtain ⟨k1, k2, k3, k4, k5, k6, kn⟩ := k
  unfold num at hn kn
  have hm : m = m' := by
    by_cases u : m < m'
    · have := cum_mono y m m' h3 u (by omega); omega
    · by_cases v : m' < m
      · have := cum_mono y m' m k3 v (by omega); omega
      · omega
  subst hm
  exact ⟨rfl, rfl, by omega⟩

/- the year of a day by the cycles -/
def q4 (b : Int) : Int := b / 146097
def r4 (b : Int) : Int := b % 146097
def c1 (b : Int) : Int := if r4 b / 36524 < 3 then r4 b / 36524 else 3
def r1 (b : Int) : Int := r4 b - c1 b * 36524
def f4 (b : Int) : Int := r1 b / 1461
def r2 (b : Int) : Int := r1 b - f4 b * 1461
def t1 (b : Int) : Int := if r2 b / 365 < 3 then r2 b / 365 else 3
def rest (b : Int) : Int := r2 b - t1 b * 365
def year (b : Int) : Int := 1 + 400 * q4 b + 100 * c1 b + 4 * f4 b + t1 b
theorem c1_hi (b : Int) (h : 3 < b % 146097 / 36524) : c1 b = 3 := by unfold c1 r4; split <;> omega
theorem c1_lo (b : Int) (h : b % 146097 / 36524 ≤ 3) : c1 b = b % 146097 / 36524 := by unfold c1 r4; split <;> omega
theorem cut3 (x : Int) (h : x ≤ 3) : (if x < 3 then x else 3) = x := by split <;> omega
theorem cut3_hi (x : Int) (h : 3 < x) : (if x < 3 then x else 3) = 3 := by split <;> omega
theorem year_way (b c a t : Int) (hc : c1 b = c) (ha : c * 36524 = a) (ht : (if (b % 146097 - a - (b % 146097 - a) / 1461 * 1461) / 365 < 3 then (b % 146097 - a - (b % 146097 - a) / 1461 * 1461) / 365 else 3) = t) :
    year b = 1 + 400 * (b / 146097) + 100 * c + 4 * ((b % 146097 - a) / 1461) + t ∧ rest b = b % 146097 - a - (b % 146097 - a) / 1461 * 1461 - t * 365 := by
  subst hc ha ht
  exact ⟨rfl, rfl⟩
theorem steps (b : Int) (h0 : 0 ≤ b) (h1 : b ≤ 3652058) :
    0 ≤ q4 b ∧ q4 b ≤ 24 ∧ 0 ≤ r4 b ∧ r4 b ≤ 146096 ∧ b = 146097 * q4 b + r4 b ∧ 0 ≤ c1 b ∧ c1 b ≤ 3 ∧ 0 ≤ r1 b ∧ r1 b ≤ 36524 ∧ (r1 b = 36524 → c1 b = 3) ∧ r4 b = 36524 * c1 b + r1 b
    ∧ 0 ≤ f4 b ∧ f4 b ≤ 24 ∧ 0 ≤ r2 b ∧ r2 b ≤ 1460 ∧ r1 b = 1461 * f4 b + r2 b ∧ 0 ≤ t1 b ∧ t1 b ≤ 3 ∧ 0 ≤ rest b ∧ rest b ≤ 365 ∧ (rest b = 365 → t1 b = 3 ∧ r2 b = 1460) ∧ r2 b = 365 * t1 b + rest b := by
  have a1 : 0 ≤ q4 b ∧ q4 b ≤ 24 ∧ 0 ≤ r4 b ∧ r4 b ≤ 146096 ∧ b = 146097 * q4 b + r4 b := by unfold q4 r4; omega
  have a2 : 0 ≤ c1 b ∧ c1 b ≤ 3 ∧ 0 ≤ r1 b ∧ r1 b ≤ 36524 ∧ (r1 b = 36524 → c1 b = 3) ∧ r4 b = 36524 * c1 b + r1 b := by
    unfold r1 c1; split <;> omega
  have a3 : 0 ≤ f4 b ∧ f4 b ≤ 24 ∧ 0 ≤ r2 b ∧ r2 b ≤ 1460 ∧ r1 b = 1461 * f4 b + r2 b := by unfold r2 f4; omega
  have a4 : 0 ≤ t1 b ∧ t1 b ≤ 3 ∧ 0 ≤ rest b ∧ rest b ≤ 365 ∧ (rest b = 365 → t1 b = 3 ∧ r2 b = 1460) ∧ r2 b = 365 * t1 b + rest b := by
    unfold rest t1; split <;> omega
  exact ⟨a1.1, a1.2.1, a1.2.2.1, a1.2.2.2.1, a1.2.2.2.2, a2.1, a2.2.1, a2.2.2.1, a2.2.2.2.1, a2.2.2.2.2.1, a2.2.2.2.2.2, a3.1, a3.2.1, a3.2.2.1, a3.2.2.2.1, a3.2.2.2.2, a4⟩
theorem year_spec (b : Int) (h0 : 0 ≤ b) (h1 : b ≤ 3652058) : 1 ≤ year b ∧ year b ≤ 10000 ∧ dby (year b) + rest b = b ∧ 0 ≤ rest b ∧ rest b < 365 + lpi (year b) := by
  obtain ⟨s1, s2, s3, s4, s5, s6, s7, s8, s9, s10, s11, s12, s13, s14, s15, s16, s17, s18, s19, s20, s21, s22⟩ := steps b h0 h1
  have hl := lpi_cases (year b)
  have hy : year b = 1 + 400 * q4 b + 100 * c1 b + 4 * f4 b + t1 b := rfl
  generalize year b = y at *
  generalize q4 b = q at *
  generalize r4 b = r at *
  generalize c1 b = c at *
  generalize r1 b = ra at *
  generalize f4 b = f at *
  generalize r2 b = rb at *
  generalize t1 b = t at *
  generalize rest b = re at *
  generalize lpi y = l at *
  have e1 : (y - 1) / 4 = 100 * q + 25 * c + f := by omega
  have e2 : (y - 1) / 100 = 4 * q + c := by omega
  have e3 : (y - 1) / 400 = q := by omega
  refine ⟨by omega, by omega, ?_, s19, ?_⟩
  · unfold dby; omega
  · by_cases h : re = 365
    · obtain ⟨rfl, hrb⟩ := s21 h
      omega
    · omega
/-- a date's year and what of it lies ahead, by the cycles -/
theorem Is.cycles {n y m d : Int} (h : Is n y m d) : year (n - 1) = y ∧ rest (n - 1) = cum y m + d - 1 := by
  have hr := h.range
  have a := year_spec (n - 1) (by omega) (by omega)
  have b := h.inYear
  have hy : year (n - 1) = y := by
    have c := dby_succ (year (n - 1))
    by_cases u : year (n - 1) < y
    · have := dby_mono (year (n - 1) + 1) y (by omega); omega
    · by_cases v : y < year (n - 1)
      · have := dby_mono (y + 1) (year (n - 1)) (by omega); omega
      · omega
  refine ⟨hy, ?_⟩
  rw [hy] at a
  obtain ⟨_, _, _, _, _, _, hn⟩ := h
  unfold num at hn
  omega

/-- the day behind a date's day -/
theorem Is.next {n y m d a b c : Int} (h : Is n y m d) (k : Is (n + 1) a b c) :
    (a = y ∧ b = m ∧ c = d + 1) ∨ (a = y ∧ b = m + 1 ∧ c = 1 ∧ d = dim y m) ∨ (a = y + 1 ∧ b = 1 ∧ c = 1 ∧ m = 12 ∧ d = 31) := by
  obtain ⟨h1, h2, h3, h4, h5, h6, hn⟩ := id h
  by_cases u : d < dim y m
  · have w : Is (n + 1) y m (d + 1) := ⟨h1, h2, h3, h4, by omega, by omega, by unfold num at hn ⊢; omega⟩
    exact .inl (k.inj w)
  · by_cases v : m < 12
    · have := cum_succ y m h3 h4
      have := dim_lo y (m + 1) (by omega) (by omega)
      have w : Is (n + 1) y (m + 1) 1 := ⟨h1, h2, by omega, by omega, by omega, by omega, by unfold num at hn ⊢; omega⟩
      obtain ⟨e1, e2, e3⟩ := k.inj w
      exact .inr (.inl ⟨e1, e2, e3, by omega⟩)
    · have e12 : m = 12 := by omega
      subst e12
      have d12 : dim y 12 = 31 := by have := dim_cases y 12; omega
      have := cum_cases y 12
      have := dby_succ y
      have c1 := cum_one (y + 1)
      have hr := k.range
      have hy9 : y ≤ 9998 := by
        by_cases z : y = 9999
        · have e := dby_end; subst z; unfold num at hn; simp at *; omega
        · omega
      have := dim_lo (y + 1) 1 (by omega) (by omega)
      have w : Is (n + 1) (y + 1) 1 1 := ⟨by omega, by omega, by omega, by omega, by omega, by omega, by unfold num at hn ⊢; omega⟩
      obtain ⟨e1, e2, e3⟩ := k.inj w
      exact .inr (.inr ⟨e1, e2, e3, rfl, by omega⟩)
end Cal
end Go.Proofs.YtkhmbphcjacgnaaGreatDoor
