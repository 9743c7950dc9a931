/-
  The walk of the law CivilDates, out of the contracts.
-/
import Derived.Test.YtdmjgfofcbfplaaDoorW9
import Derived.Test.YtdmjgfofcbfplaaDoorW5
namespace Go.Proofs.YtdmjgfofcbfplaaDoor
open Go.RowKit

set_option maxHeartbeats 800000 in
theorem civilDates_near (n : Int) (w : World) (hM : Months w) (hn : -2147483648 ≤ n ∧ n ≤ 2147483647) :
    Calls Tryd.prog 5 #[.int .i32 n, .bool true] w fun e w' => e = .returned (.bool true) ∧ Below w.heap.size w w' := by
  obtain ⟨n1, n2⟩ := hn
  have k1 : 1 ≤ 1 + n % 4294967296 % 3652059 := by omega
  have k2 : 1 + n % 4294967296 % 3652059 ≤ 3652059 := by omega
  go_enter Tryd.func5, Tryd.ntmps5
  go_wp2_with fail
  refine (awake _ hM).mono ?_
  rintro e wa ⟨rfl, b1⟩
  have hN := hM.grown b1
  go_wp2_with fail
  generalize 1 + n % 4294967296 % 3652059 = D at *
  obtain ⟨y, m, d, hi⟩ := Cal.is_ex D k1 k2
  have y1 := hi.1
  have y2 := hi.2.1
  have m1 := hi.2.2.1
  have m2 := hi.2.2.2.1
  have d1 := hi.2.2.2.2.1
  have d2 := hi.2.2.2.2.2.1
  have dl := Cal.dim_le y m
  have WK := Lib.hid (show ((D - 1) % 7 == (D + 6) % 7) = true by simp; omega)
  refine (date_yes _ y m d _ hN hi).mono ?_
  rintro e w' ⟨rfl, rfl⟩
  go_wp2_with fail
  refine (lawDate_yes _ y m d _ hi).mono ?_
  rintro e wb ⟨rfl, b2⟩
  have hO := hN.grown b2
  go_wp2_with fail
  refine (valid_yes _ _ k1 k2).mono ?_
  rintro e w' ⟨rfl, rfl⟩
  go_wp2_with fail
  refine (lawDigits4 _ _ (by omega) (by omega)).mono ?_
  rintro e w' ⟨rfl, rfl⟩
  have z4 : (pad4 y).size ≤ 4 := Nat.le_of_eq (pad4_size y)
  have z2 : (pad2 m).size ≤ 2 := Nat.le_of_eq (pad2_size m)
  have z3 : (pad2 d).size ≤ 2 := Nat.le_of_eq (pad2_size d)
  go_wp2_with fail
  refine (lawDigits2 _ _ (by omega) (by omega)).mono ?_
  rintro e w' ⟨rfl, rfl⟩
  go_wp2_with fail
  refine (lawDigits2 _ _ (by omega) (by omega)).mono ?_
  rintro e w' ⟨rfl, rfl⟩
  go_wp2_with fail
  rw [txt_of]
  refine (parse_txt _ y m d _ hO hi).mono ?_
  rintro e w' ⟨rfl, rfl⟩
  have wk := WK.out
  go_wp2_with fail
  refine (weekday_yes _ _ k1 k2).mono ?_
  rintro e w' ⟨rfl, rfl⟩
  go_wp2_with fail
  refine (text_yes _ y m d _ hO hi).mono ?_
  rintro e wc ⟨rfl, b3⟩
  go_wp2
  go_ret
  exact ⟨rfl, b1.trans ((b2.mono b1.size).trans (b3.mono (Nat.le_trans b1.size b2.size)))⟩

set_option maxHeartbeats 800000 in
theorem civilDates_far (n : Int) (w : World) (hM : Months w) (k1 : 1 ≤ n) (k2 : n ≤ 3652059) :
    Calls Tryd.prog 5 #[.int .i32 n, .bool false] w fun e w' => e = .returned (.bool true) ∧ Below w.heap.size w w' := by
  go_enter Tryd.func5, Tryd.ntmps5
  go_wp2_with fail
  refine (awake _ hM).mono ?_
  rintro e wa ⟨rfl, b1⟩
  have hN := hM.grown b1
  go_wp2_with fail
  obtain ⟨y, m, d, hi⟩ := Cal.is_ex n k1 k2
  have y1 := hi.1
  have y2 := hi.2.1
  have m1 := hi.2.2.1
  have m2 := hi.2.2.2.1
  have d1 := hi.2.2.2.2.1
  have d2 := hi.2.2.2.2.2.1
  have dl := Cal.dim_le y m
  have WK := Lib.hid (show ((n - 1) % 7 == (n + 6) % 7) = true by simp; omega)
  refine (date_yes _ y m d _ hN hi).mono ?_
  rintro e w' ⟨rfl, rfl⟩
  go_wp2_with fail
  refine (lawDate_yes _ y m d _ hi).mono ?_
  rintro e wb ⟨rfl, b2⟩
  have hO := hN.grown b2
  go_wp2_with fail
  refine (valid_yes _ _ k1 k2).mono ?_
  rintro e w' ⟨rfl, rfl⟩
  go_wp2_with fail
  refine (lawDigits4 _ _ (by omega) (by omega)).mono ?_
  rintro e w' ⟨rfl, rfl⟩
  have z4 : (pad4 y).size ≤ 4 := Nat.le_of_eq (pad4_size y)
  have z2 : (pad2 m).size ≤ 2 := Nat.le_of_eq (pad2_size m)
  have z3 : (pad2 d).size ≤ 2 := Nat.le_of_eq (pad2_size d)
  go_wp2_with fail
  refine (lawDigits2 _ _ (by omega) (by omega)).mono ?_
  rintro e w' ⟨rfl, rfl⟩
  go_wp2_with fail
  refine (lawDigits2 _ _ (by omega) (by omega)).mono ?_
  rintro e w' ⟨rfl, rfl⟩
  go_wp2_with fail
  rw [txt_of]
  refine (parse_txt _ y m d _ hO hi).mono ?_
  rintro e w' ⟨rfl, rfl⟩
  have wk := WK.out
  go_wp2_with fail
  refine (weekday_yes _ _ k1 k2).mono ?_
  rintro e w' ⟨rfl, rfl⟩
  go_wp2_with fail
  refine (text_yes _ y m d _ hO hi).mono ?_
  rintro e wc ⟨rfl, b3⟩
  go_wp2
  go_ret
  exact ⟨rfl, b1.trans ((b2.mono b1.size).trans (b3.mono (Nat.le_trans b1.size b2.size)))⟩

set_option maxHeartbeats 400000 in
theorem civilDates_none (n : Int) (w : World) (hM : Months w) (hn : -2147483648 ≤ n ∧ n ≤ 2147483647) (h : n < 1 ∨ 3652059 < n) :
    Calls Tryd.prog 5 #[.int .i32 n, .bool false] w fun e w' => e = .returned (.bool true) ∧ Below w.heap.size w w' := by
  obtain ⟨n1, n2⟩ := hn
  have H := Lib.hid h
  have hc : n < 1 ∨ (1 ≤ n ∧ 3652059 < n ∧ decide (n ≤ 3652059) = false) := by
    by_cases u : n < 1
    · exact .inl u
    · exact .inr ⟨by omega, by omega, by simp; omega⟩
  clear h
  rcases hc with c | ⟨c0, c, cb⟩
  all_goals
    go_enter Tryd.func5, Tryd.ntmps5
    go_wp2_with fail
    refine (awake _ hM).mono ?_
    rintro e wa ⟨rfl, b1⟩
    go_wp2_with fail
    refine (date_no _ _ H.out).mono ?_
    rintro e w' ⟨rfl, rfl⟩
    go_wp2_with fail
    refine (lawDate_no _ _ H.out).mono ?_
    rintro e w' ⟨rfl, rfl⟩
    go_wp2_with fail
    refine (valid_no _ _ H.out).mono ?_
    rintro e w' ⟨rfl, rfl⟩
    go_wp2_with fail
    refine (weekday_no _ _ H.out).mono ?_
    rintro e w' ⟨rfl, rfl⟩
    go_wp2_with fail
    refine (text_no _ _ H.out).mono ?_
    rintro e w' ⟨rfl, rfl⟩
    go_wp2
    go_ret
    exact ⟨rfl, b1⟩

theorem civilDates_walk (n : Int) (near : Bool) (w : World) (hM : Months w) (hn : -2147483648 ≤ n ∧ n ≤ 2147483647) :
    Calls Tryd.prog 5 #[.int .i32 n, .bool near] w fun e w' => e = .returned (.bool true) ∧ Below w.heap.size w w' := by
  cases near
  · by_cases h : 1 ≤ n ∧ n ≤ 3652059
    · exact civilDates_far n w hM h.1 h.2
    · exact civilDates_none n w hM hn (by omega)
  · exact civilDates_near n w hM hn
end Go.Proofs.YtdmjgfofcbfplaaDoor
