/-
  Contracts of civil's and the law's leaf functions: what each returns, of any number.
-/
import Derived.Test.YtkhmbphcjacgnaaGreatDoorProg
import Derived.Test.YtkhmbphcjacgnaaGreatDoorCal
import Derived.WalkKit
import Derived.WalkLawsBesides
import Derived.Lib.Hide
namespace Go.Proofs.YtkhmbphcjacgnaaGreatDoor
open Go.RowKit

theorem ret_bool {a b : Bool} (h : a = b) : Ending.returned (.bool a) = .returned (.bool b) := by rw [h]
theorem ret_int {k : IntKind} {a b : Int} (h : a = b) : Ending.returned (.int k a) = .returned (.int k b) := by rw [h]
theorem ret_two {k : IntKind} {a b a' b' : Int} (h : a = a') (g : b = b') : Ending.returned (.tuple #[.int k a, .int k b]) = .returned (.tuple #[.int k a', .int k b']) := by rw [h, g]
theorem ret_three {k : IntKind} {a b c a' b' c' : Int} (h : a = a') (g : b = b') (f : c = c') : Ending.returned (.tuple #[.int k a, .int k b, .int k c]) = .returned (.tuple #[.int k a', .int k b', .int k c']) := by rw [h, g, f]

theorem isYear_yes (y : Int) (w : World) (h1 : 1 ≤ y) (h2 : y ≤ 9999) : Calls Tryz.prog 74 #[.int .i64 y] w fun e w' => e = .returned (.bool true) ∧ w = w' := by
  go_enter Tryz.func74, Tryz.ntmps74
  go_wp2
  go_ret
  exact ⟨rfl, rfl⟩
theorem isYear_no (y : Int) (w : World) (h : y < 1 ∨ 9999 < y) : Calls Tryz.prog 74 #[.int .i64 y] w fun e w' => e = .returned (.bool false) ∧ w = w' := by
  by_cases h1 : 1 ≤ y
  · have h2 : ¬ y ≤ 9999 := by omega
    clear h
    go_enter Tryz.func74, Tryz.ntmps74
    go_wp2
    go_ret
    exact ⟨rfl, rfl⟩
  · clear h
    go_enter Tryz.func74, Tryz.ntmps74
    go_wp2
    go_ret
    exact ⟨rfl, rfl⟩

/-- civil.Leap, of a year that there is. -/
theorem leap_year (y : Int) (w : World) (h1 : 1 ≤ y) (h2 : y ≤ 9999) : Calls Tryz.prog 75 #[.int .i64 y] w fun e w' => e = .returned (.bool (Cal.lp y)) ∧ w = w' := by
  by_cases a : y % 4 = 0
  · by_cases b : y % 100 = 0
    · by_cases c : y % 400 = 0
      all_goals
        have E := Lib.hid (show Cal.lp y = decide (y % 400 = 0) by simp [Cal.lp, a, b, c])
        have a' : (y % 4 == 0) = true := by simpa using a
        have b' : (y % 100 != 0) = false := by simpa using b
        have c' : (y % 400 == 0) = decide (y % 400 = 0) := rfl
        simp only [c] at c'
        have C := Lib.hid c
        clear a b c
        go_enter Tryz.func75, Tryz.ntmps75
        go_wp2
        go_ret
        exact ⟨ret_bool (by rw [E.out]; simp [C.out]), rfl⟩
    · have E := Lib.hid (show Cal.lp y = true by simp [Cal.lp, a, b])
      have a' : (y % 4 == 0) = true := by simpa using a
      have b' : (y % 100 != 0) = true := by simpa using b
      clear a b
      go_enter Tryz.func75, Tryz.ntmps75
      go_wp2
      go_ret
      exact ⟨ret_bool E.out.symm, rfl⟩
  · have E := Lib.hid (show Cal.lp y = false by
      rw [Bool.eq_false_iff]; intro h; rw [Cal.lp_iff] at h; omega)
    have a' : (y % 4 == 0) = false := by simpa using a
    clear a
    go_enter Tryz.func75, Tryz.ntmps75
    go_wp2
    go_ret
    exact ⟨ret_bool E.out.symm, rfl⟩

/-- how many days each month has in a common year, as civil's table has it -/
def mon (m : Int) : Int := if m = 2 then 28 else if m = 4 ∨ m = 6 ∨ m = 9 ∨ m = 11 then 30 else 31
/-- the world holds civil's table of months -/
def Months (w : World) : Prop := ∀ m : Int, 1 ≤ m → m ≤ 12 → w.cell? ⟨0, m.toNat - 1, none⟩ = some (.int .i64 (mon m))
theorem Months.below {w w' : World} {B : Nat} (h : Months w) (hb : Below B w w') (hB : 0 < B) : Months w' := fun m h1 h2 => by
  rw [hb.cell (p := ⟨0, m.toNat - 1, none⟩) hB]; exact h m h1 h2

theorem long_any (y m : Int) (w : World) (hM : Months w) : Calls Tryz.prog 50 #[.int .i64 y, .int .i64 m] w fun e w' => e = .returned (.int .i64 (Cal.long y m)) ∧ w = w' := by
  by_cases hy : 1 ≤ y ∧ y ≤ 9999
  · obtain ⟨y1, y2⟩ := hy
    by_cases hm : 1 ≤ m ∧ m ≤ 12
    · obtain ⟨m1, m2⟩ := hm
      have hc := hM m m1 m2
      by_cases h2 : m = 2
      · subst h2
        have E := Lib.hid (Cal.long_of (m := 2) y1 y2)
        have hc' : w.cell? ⟨0, 1, none⟩ = some (.int .i64 28) := hc
        clear hc
        cases hl : Cal.lp y
        all_goals
          have L := Lib.hid hl
          clear hl
          go_enter Tryz.func50, Tryz.ntmps50
          go_wp2_with (first | (go_at_call 74; refine (isYear_yes _ _ (by omega) (by omega)).mono ?_; rintro e w' ⟨rfl, rfl⟩) | (go_at_call 75; refine (leap_year _ _ (by omega) (by omega)).mono ?_; rintro e w' ⟨rfl, rfl⟩; rw [L.out]))
          go_ret
          exact ⟨ret_int (by rw [E.out]; simp [Cal.dim, Cal.lpi, L.out]), rfl⟩
      · have E := Lib.hid (show Cal.long y m = mon m by
          rw [Cal.long_of y1 y2]; have := Cal.dim_cases y m; unfold mon; split <;> (try split) <;> omega)
        have h2' : (m == 2) = false := by simpa using h2
        clear h2
        go_enter Tryz.func50, Tryz.ntmps50
        go_wp2_with (go_at_call 74; refine (isYear_yes _ _ (by omega) (by omega)).mono ?_; rintro e w' ⟨rfl, rfl⟩)
        go_ret
        exact ⟨ret_int E.out.symm, rfl⟩
    · have E := Lib.hid (show Cal.long y m = 0 by rw [Cal.long_of y1 y2]; have := Cal.dim_cases y m; omega)
      by_cases m1 : 1 ≤ m
      · have m2 : ¬ m ≤ 12 := by omega
        clear hm hM
        go_enter Tryz.func50, Tryz.ntmps50
        go_wp2_with (go_at_call 74; refine (isYear_yes _ _ (by omega) (by omega)).mono ?_; rintro e w' ⟨rfl, rfl⟩)
        go_ret
        exact ⟨ret_int E.out.symm, rfl⟩
      · clear hm hM
        go_enter Tryz.func50, Tryz.ntmps50
        go_wp2_with (go_at_call 74; refine (isYear_yes _ _ (by omega) (by omega)).mono ?_; rintro e w' ⟨rfl, rfl⟩)
        go_ret
        exact ⟨ret_int E.out.symm, rfl⟩
  · have E := Lib.hid (show Cal.long y m = 0 by simp [Cal.long, hy])
    have hy' : y < 1 ∨ 9999 < y := by omega
    clear hy hM
    go_enter Tryz.func50, Tryz.ntmps50
    go_wp2_with (go_at_call 74; refine (isYear_no _ _ hy').mono ?_; rintro e w' ⟨rfl, rfl⟩)
    go_ret
    exact ⟨ret_int E.out.symm, rfl⟩

theorem daysBefore_any (y : Int) (w : World) (h1 : 1 ≤ y) (h2 : y ≤ 10000) : Calls Tryz.prog 51 #[.int .i64 y] w fun e w' => e = .returned (.int .i64 (Cal.dby y)) ∧ w = w' := by
  go_enter Tryz.func51, Tryz.ntmps51
  go_wp2
  go_ret
  exact ⟨ret_int (by unfold Cal.dby; omega), rfl⟩

theorem valid_yes (n : Int) (w : World) (h1 : 1 ≤ n) (h2 : n ≤ 3652059) : Calls Tryz.prog 56 #[.int .i64 n] w fun e w' => e = .returned (.bool true) ∧ w = w' := by
  go_enter Tryz.func56, Tryz.ntmps56
  go_wp2
  go_ret
  exact ⟨rfl, rfl⟩
theorem weekday_yes (n : Int) (w : World) (h1 : 1 ≤ n) (h2 : n ≤ 3652059) : Calls Tryz.prog 83 #[.int .i64 n] w fun e w' => e = .returned (.int .i64 ((n - 1) % 7)) ∧ w = w' := by
  go_enter Tryz.func83, Tryz.ntmps83
  go_wp2_with (go_at_call 56; refine (valid_yes _ _ (by omega) (by omega)).mono ?_; rintro e w' ⟨rfl, rfl⟩)
  go_ret
  exact ⟨rfl, rfl⟩
/-- yearOf, of so many days before: its year, and how many of these are in it -/
theorem yearOf_any (b : Int) (w : World) (h0 : 0 ≤ b) (h1 : b ≤ 3652058) : Calls Tryz.prog 85 #[.int .i64 b] w fun e w' => e = .returned (.tuple #[.int .i64 (Cal.year b), .int .i64 (Cal.rest b)]) ∧ w = w' := by
  go_enter Tryz.func85, Tryz.ntmps85
  go_wp2
  all_goals go_ret2
  · obtain ⟨e1, e2⟩ := Cal.year_way b 3 109572 3 (Cal.c1_hi b ‹_›) (by decide) (Cal.cut3_hi _ ‹_›)
    exact ⟨ret_two (by rw [e1]; omega) (by rw [e2]; omega), rfl⟩
  · obtain ⟨e1, e2⟩ := Cal.year_way b _ _ 3 (Cal.c1_lo b ‹_›) rfl (Cal.cut3_hi _ ‹_›)
    exact ⟨ret_two (by rw [e1]) (by rw [e2]; omega), rfl⟩
  · obtain ⟨e1, e2⟩ := Cal.year_way b _ _ _ (Cal.c1_lo b ‹_›) rfl (Cal.cut3 _ ‹_›)
    exact ⟨ret_two e1.symm e2.symm, rfl⟩

end Go.Proofs.YtkhmbphcjacgnaaGreatDoor
