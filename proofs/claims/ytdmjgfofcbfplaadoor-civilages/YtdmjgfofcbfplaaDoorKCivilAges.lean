/-
  The walk of the law CivilAges, out of the contracts.
-/
import Derived.Test.YtdmjgfofcbfplaaDoorW4
namespace Go.Proofs.YtdmjgfofcbfplaaDoor
open Go.RowKit

set_option maxHeartbeats 400000 in
theorem civilAges_walk (y m d : Int) (w : World) (hM : Months w) (hy : 0 ≤ y ∧ y ≤ 65535) (hm : 0 ≤ m ∧ m ≤ 255) (hd : 0 ≤ d ∧ d ≤ 255) :
    Calls Tryd.prog 9 #[.int .u16 y, .int .u8 m, .int .u8 d] w fun e w' => e = .returned (.bool true) ∧ Below w.heap.size w w' := by
  obtain ⟨y1, y2⟩ := hy
  obtain ⟨m1, m2⟩ := hm
  obtain ⟨d1, d2⟩ := hd
  have k1 : 1 ≤ 1 + y % 9599 := by omega
  have k2 : 1 + y % 9599 ≤ 9599 := by omega
  have a1 : 1 ≤ 1 + m % 12 := by omega
  have a2 : 1 + m % 12 ≤ 12 := by omega
  have c1 : 1 ≤ 1 + d % 31 := by omega
  have c2 : 1 + d % 31 ≤ 31 := by omega
  have cb := Cal.cum_bd (1 + y % 9599) (1 + m % 12) a1 (by omega)
  have db := Cal.dby_bd (1 + y % 9599) k1 (by omega)
  have E := Lib.hid (Cal.dim_ages (1 + y % 9599) (1 + m % 12))
  have N1 := Lib.hid (show Cal.num (1 + y % 9599) (1 + m % 12) (1 + d % 31) = Cal.dby (1 + y % 9599) + Cal.cum (1 + y % 9599) (1 + m % 12) + (1 + d % 31) from rfl)
  have N2 := Lib.hid (show Cal.num (1 + y % 9599 + 400) (1 + m % 12) (1 + d % 31) = Cal.dby (1 + y % 9599) + Cal.cum (1 + y % 9599) (1 + m % 12) + (1 + d % 31) + 146097 by
    unfold Cal.num; rw [Cal.dby_ages, Cal.cum_ages]; omega)
  by_cases h : 1 + d % 31 ≤ Cal.dim (1 + y % 9599) (1 + m % 12)
  · have H := Lib.hid h
    have R := Lib.hid (Cal.is_num k1 (by omega) a1 a2 c1 h).range
    have R2 := Lib.hid (Cal.is_num (y := 1 + y % 9599 + 400) (by omega) (by omega) a1 a2 c1 (by rw [E.out]; exact h)).range
    clear h
    go_enter Tryd.func9, Tryd.ntmps9
    go_wp2_with fail
    refine (awake _ hM).mono ?_
    rintro e wa ⟨rfl, b1⟩
    have hN := hM.grown b1
    go_wp2_with fail
    refine (of_yes _ _ _ _ hN k1 (by omega) a1 a2 c1 H.out).mono ?_
    rintro e w' ⟨rfl, rfl⟩
    rw [N1.out]
    go_wp2_with fail
    refine (of_yes _ _ _ _ hN (by omega) (by omega) a1 a2 c1 (by rw [E.out]; exact H.out)).mono ?_
    rintro e w' ⟨rfl, rfl⟩
    rw [N2.out]
    have r1 := R.out
    have r2 := R2.out
    rw [N1.out] at r1
    rw [N2.out] at r2
    generalize Cal.dby (1 + y % 9599) + Cal.cum (1 + y % 9599) (1 + m % 12) + (1 + d % 31) = n at *
    have wk : ((n - 1) % 7 == (n + 146097 - 1) % 7) = true := by simp; omega
    go_wp2_with fail
    refine (weekday_yes _ _ (by omega) (by omega)).mono ?_
    rintro e w' ⟨rfl, rfl⟩
    go_wp2_with fail
    refine (weekday_yes _ _ (by omega) (by omega)).mono ?_
    rintro e w' ⟨rfl, rfl⟩
    go_wp2
    go_ret
    exact ⟨rfl, b1⟩
  · have hno := Lib.hid (show 1 + d % 31 < 1 ∨ Cal.long (1 + y % 9599) (1 + m % 12) < 1 + d % 31 by rw [Cal.long_of k1 (by omega)]; omega)
    have hno2 := Lib.hid (show 1 + d % 31 < 1 ∨ Cal.long (1 + y % 9599 + 400) (1 + m % 12) < 1 + d % 31 by rw [Cal.long_of (by omega) (by omega), E.out]; omega)
    clear h
    go_enter Tryd.func9, Tryd.ntmps9
    go_wp2_with fail
    refine (awake _ hM).mono ?_
    rintro e wa ⟨rfl, b1⟩
    have hN := hM.grown b1
    go_wp2_with fail
    refine (of_no _ _ _ _ hN hno.out).mono ?_
    rintro e w' ⟨rfl, rfl⟩
    go_wp2_with fail
    refine (of_no _ _ _ _ hN hno2.out).mono ?_
    rintro e w' ⟨rfl, rfl⟩
    go_wp2
    go_ret
    exact ⟨rfl, b1⟩
end Go.Proofs.YtdmjgfofcbfplaaDoor
