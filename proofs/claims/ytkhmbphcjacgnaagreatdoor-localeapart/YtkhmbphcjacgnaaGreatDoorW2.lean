/-
  Contracts of civil.Of and Day.Date: a date's number, a number's date.
-/
import Derived.Test.YtkhmbphcjacgnaaGreatDoorW1
namespace Go.Proofs.YtkhmbphcjacgnaaGreatDoor
open Go.RowKit

theorem ret_of {a b : Int} {t : Bool} (h : a = b) : Ending.returned (.tuple #[.int .i64 a, .bool t]) = .returned (.tuple #[.int .i64 b, .bool t]) := by rw [h]

theorem of_yes (y m d : Int) (w : World) (hM : Months w) (y1 : 1 ≤ y) (y2 : y ≤ 9999) (m1 : 1 ≤ m) (m2 : m ≤ 12) (d1 : 1 ≤ d) (d2 : d ≤ Cal.dim y m) : Calls Tryz.prog 40 #[.int .i64 y, .int .i64 m, .int .i64 d] w fun e w' => e = .returned (.tuple #[.int .i64 (Cal.num y m d), .bool true]) ∧ w = w' := by
  have e := Cal.long_of (m := m) y1 y2
  have h2 : d ≤ Cal.long y m := by omega
  have db := Cal.dby_bd y y1 (by omega)
  have dl := Cal.dim_le y m
  clear e
  go_enter Tryz.func40, Tryz.ntmps40
  go_wp2_with (first | (go_at_call 50; refine (long_any _ _ _ hM).mono ?_; rintro e w' ⟨rfl, rfl⟩) | (go_at_call 51; refine (daysBefore_any _ _ (by omega) (by omega)).mono ?_; rintro e w' ⟨rfl, rfl⟩))
  go_loop [8, 9] (fun n k => ∃ i : Int, 1 ≤ i ∧ i ≤ m ∧ k = .int .i64 i ∧ n = .int .i64 (Cal.dby y + d + Cal.cum y i)) (fun _ k => (m - intOf k).toNat)
  case atStart => exact ⟨1, by omega, by omega, rfl, by rw [Cal.cum_one]; simp⟩
  case round =>
    obtain ⟨i, i1, i2, rfl, rfl⟩ := hrel
    have cb := Cal.cum_bd y i i1 (by omega)
    by_cases hlt : i < m
    · have ll := Cal.long_le y i
      have CS := Lib.hid (show Cal.cum y (i + 1) = Cal.cum y i + Cal.long y i by rw [Cal.long_of y1 y2]; exact Cal.cum_succ y i i1 (by omega))
      go_wp2_with (go_at_call 50; refine (long_any _ _ _ hM).mono ?_; rintro e w' ⟨rfl, rfl⟩)
      go_round
      case rel => exact ⟨i + 1, by omega, by omega, rfl, by rw [CS.out]; go_num⟩
      case measure => simp [intOf]; omega
    · have hi : i = m := by omega
      have HI := Lib.hid hi
      clear hi
      go_wp2
      go_ret2
      exact ⟨ret_of (by rw [HI.out]; unfold Cal.num; omega), rfl⟩

theorem date_yes (n y m d : Int) (w : World) (hM : Months w) (h : Cal.Is n y m d) : Calls Tryz.prog 58 #[.int .i64 n] w fun e w' => e = .returned (.tuple #[.int .i64 y, .int .i64 m, .int .i64 d]) ∧ w = w' := by
  obtain ⟨n1, n2⟩ := h.range
  obtain ⟨hy, hr⟩ := h.cycles
  have HY := Lib.hid hy
  have HR := Lib.hid hr
  clear hy hr
  obtain ⟨y1, y2, m1, m2, d1, d2, hn⟩ := h
  clear hn
  have cm := Cal.cum_bd y m m1 (by omega)
  have dl := Cal.dim_le y m
  go_enter Tryz.func58, Tryz.ntmps58
  go_wp2_with (first | (go_at_call 56; refine (valid_yes _ _ (by omega) (by omega)).mono ?_; rintro e w' ⟨rfl, rfl⟩) | (go_at_call 85; refine (yearOf_any _ _ (by omega) (by omega)).mono ?_; rintro e w' ⟨rfl, rfl⟩; rw [HY.out, HR.out]))
  go_loop [3, 4] (fun k r => ∃ i : Int, 1 ≤ i ∧ i ≤ m ∧ k = .int .i64 i ∧ r = .int .i64 (Cal.cum y m + d - 1 - Cal.cum y i)) (fun k _ => (m - intOf k).toNat)
  case atStart => exact ⟨1, by omega, by omega, rfl, by rw [Cal.cum_one]; simp⟩
  case round =>
    obtain ⟨i, i1, i2, rfl, rfl⟩ := hrel
    have cb := Cal.cum_bd y i i1 (by omega)
    have ll := Cal.long_le y i
    by_cases hlt : i < m
    · have CS := Lib.hid (show Cal.cum y (i + 1) = Cal.cum y i + Cal.long y i by rw [Cal.long_of y1 y2]; exact Cal.cum_succ y i i1 (by omega))
      have cmo : Cal.cum y i + Cal.long y i ≤ Cal.cum y m := by rw [Cal.long_of y1 y2]; exact Cal.cum_mono y i m i1 hlt (by omega)
      have hge : Cal.long y i ≤ Cal.cum y m + d - 1 - Cal.cum y i := by omega
      go_wp2_with (go_at_call 50; refine (long_any _ _ _ hM).mono ?_; rintro e w' ⟨rfl, rfl⟩)
      go_round
      case rel => exact ⟨i + 1, by omega, by omega, rfl, by rw [CS.out]; go_num⟩
      case measure => simp [intOf]; omega
    · have hi : i = m := by omega
      subst hi
      have hlo : Cal.cum y i + d - 1 - Cal.cum y i < Cal.long y i := by rw [Cal.long_of y1 y2]; omega
      go_wp2_with (go_at_call 50; refine (long_any _ _ _ hM).mono ?_; rintro e w' ⟨rfl, rfl⟩)
      go_ret3
      exact ⟨ret_three rfl rfl (by omega), rfl⟩

end Go.Proofs.YtkhmbphcjacgnaaGreatDoor
