/-
  The walk of the law CivilYears, out of the contracts.
-/
import Derived.Test.YtdmjgfofcbfplaaDoorW4
namespace Go.Proofs.YtdmjgfofcbfplaaDoor
open Go.RowKit

/-- a year's months together, up to one -/
def tot (y i : Int) : Int := if i ≤ 0 then 0 else if i ≤ 13 then Cal.cum y i else Cal.cum y 13
theorem tot_succ (y i : Int) (y1 : 1 ≤ y) (y2 : y ≤ 9999) (h0 : 0 ≤ i) (h1 : i ≤ 13) : tot y (i + 1) = tot y i + Cal.long y i := by
  rw [Cal.long_of y1 y2]
  have d := Cal.dim_cases y i
  have o := Cal.cum_one y
  by_cases a : i = 0
  · subst a; simp [tot]; omega
  · by_cases b : i = 13
    · subst b; simp [tot]; omega
    · have c := Cal.cum_succ y i (by omega) (by omega)
      unfold tot
      rw [if_neg (by omega), if_pos (by omega), if_neg (by omega), if_pos (by omega)]
      exact c
theorem tot_bd (y i : Int) : 0 ≤ tot y i ∧ tot y i ≤ 366 := by
  unfold tot
  split
  · omega
  · split
    · exact Cal.cum_bd y i (by omega) (by omega)
    · exact Cal.cum_bd y 13 (by omega) (by omega)

set_option maxHeartbeats 400000 in
theorem civilYears_walk (y : Int) (w : World) (hM : Months w) (hy : 0 ≤ y ∧ y ≤ 65535) :
    Calls Tryd.prog 8 #[.int .u16 y] w fun e w' => e = .returned (.bool true) ∧ Below w.heap.size w w' := by
  obtain ⟨y1, y2⟩ := hy
  have k1 : 1 ≤ 1 + y % 9998 := by omega
  have k2 : 1 + y % 9998 ≤ 9998 := by omega
  go_enter Tryd.func8, Tryd.ntmps8
  go_wp2_with fail
  refine (awake _ hM).mono ?_
  rintro e wa ⟨rfl, b1⟩
  have hN := hM.grown b1
  go_wp2_with fail
  generalize 1 + y % 9998 = k at *
  go_loop [4, 19] (fun n c => ∃ i : Int, 0 ≤ i ∧ i ≤ 14 ∧ c = .int .i64 i ∧ n = .int .i64 (tot k i)) (fun _ c => (14 - intOf c).toNat)
  case atStart => exact ⟨0, by omega, by omega, rfl, rfl⟩
  case round =>
    obtain ⟨i, i1, i2, rfl, rfl⟩ := hrel
    have tb := tot_bd k i
    by_cases hlt : i < 14
    · have ll := Cal.long_le k i
      have CS := Lib.hid (tot_succ k i k1 (by omega) i1 (by omega))
      go_wp2_with (go_at_call 13; refine (long_any _ _ _ hN).mono ?_; rintro e w' ⟨rfl, rfl⟩)
      go_round
      case rel => exact ⟨i + 1, by omega, by omega, rfl, by rw [CS.out]⟩
      case measure => simp [intOf]; omega
    · obtain rfl : i = 14 := by omega
      clear i1 i2 hlt tb
      have T := Lib.hid (show tot k 14 = 365 + Cal.lpi k by simp [tot]; exact Cal.cum_end k)
      have A := Lib.hid (show Cal.num k 1 1 = Cal.dby k + 1 by unfold Cal.num; rw [Cal.cum_one]; omega)
      have d12 : Cal.dim k 12 = 31 := by have := Cal.dim_cases k 12; omega
      have d1 : Cal.dim k 1 = 31 := by have := Cal.dim_cases k 1; omega
      have d1' : Cal.dim (k + 1) 1 = 31 := by have := Cal.dim_cases (k + 1) 1; omega
      have B := Lib.hid (show Cal.num k 12 31 = Cal.dby k + (365 + Cal.lpi k) by
        have e := Cal.cum_succ k 12 (by omega) (by omega)
        have e' : Cal.cum k (12 + 1) = 365 + Cal.lpi k := Cal.cum_end k
        unfold Cal.num; omega)
      have C := Lib.hid (show Cal.num (k + 1) 1 1 = Cal.dby k + (365 + Cal.lpi k) + 1 by unfold Cal.num; rw [Cal.cum_one, Cal.dby_succ]; omega)
      have D12 := Lib.hid d12
      have D1 := Lib.hid d1
      have D1' := Lib.hid d1'
      clear d12 d1 d1'
      have db := Cal.dby_bd k k1 (by omega)
      rw [T.out]
      have hcase : (Cal.lp k = true ∧ Cal.lpi k = 1) ∨ (Cal.lp k = false ∧ Cal.lpi k = 0) := by
        cases hl : Cal.lp k
        · exact .inr ⟨rfl, by simp [Cal.lpi, hl]⟩
        · exact .inl ⟨rfl, by simp [Cal.lpi, hl]⟩
      rcases hcase with ⟨hl, hv⟩ | ⟨hl, hv⟩
      all_goals
        have HL := Lib.hid hl
        have HV := Lib.hid hv
        rw [hv]
        clear hl hv
        go_wp2_with fail
        refine (leap_year _ _ k1 (by omega)).mono ?_
        rintro e w' ⟨rfl, rfl⟩
        rw [HL.out]
        go_wp2_with fail
        refine (of_yes _ _ _ _ hN k1 (by omega) (by decide) (by decide) (by decide) (by rw [D1.out]; decide)).mono ?_
        rintro e w' ⟨rfl, rfl⟩
        rw [A.out]
        go_wp2_with fail
        refine (of_yes _ _ _ _ hN k1 (by omega) (by decide) (by decide) (by decide) (by rw [D12.out]; decide)).mono ?_
        rintro e w' ⟨rfl, rfl⟩
        rw [B.out, HV.out]
        go_wp2_with fail
        refine (of_yes _ _ _ _ hN (by omega) (by omega) (by decide) (by decide) (by decide) (by rw [D1'.out]; decide)).mono ?_
        rintro e w' ⟨rfl, rfl⟩
        rw [C.out, HV.out]
        go_wp2
        go_ret
        exact ⟨rfl, b1⟩
end Go.Proofs.YtdmjgfofcbfplaaDoor
