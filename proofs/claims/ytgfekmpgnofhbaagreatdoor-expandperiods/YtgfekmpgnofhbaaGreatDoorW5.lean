/-
  Contracts of the law's Ahead and Date: the document's answer for a day's date.
-/
import Derived.Test.YtgfekmpgnofhbaaGreatDoorW4
import Derived.Handy
import Derived.BigQuiet
namespace Go.Proofs.YtgfekmpgnofhbaaGreatDoor
open Go.RowKit

set_option maxHeartbeats 400000 in
theorem ahead_any (y : Int) (w : World) (h0 : 1 ≤ y) (h1 : y ≤ 10000) : Calls Tryz.prog 15 #[.int .i64 y] w fun e w' => e = .returned (.int .i64 (Cal.dby y)) ∧ Below w.heap.size w w' := by
  go_enter Tryz.func15, Tryz.ntmps15
  go_wp2
  refine wp_loop_rounds 4 ?_
  rw [rounds_succ]; go_wp2
  go_quiet (fail)
  go_wp2
  rw [rounds_succ]; go_wp2
  go_quiet (fail)
  go_wp2
  rw [rounds_succ]; go_wp2
  go_quiet (fail)
  go_wp2
  rw [rounds_succ]; go_wp2
  go_ret
  refine ⟨ret_int (by unfold Cal.dby; omega), ?_⟩
  repeat (first | exact Below.refl _ _ | refine below_drewN ?_ _ | refine Below.alloc ?_ (by simp <;> omega) _)

set_option maxHeartbeats 400000 in
theorem lawDate_yes (n y m d : Int) (w : World) (h : Cal.Is n y m d) : Calls Tryz.prog 13 #[.int .i64 n] w fun e w' => e = .returned (.tuple #[.int .i64 y, .int .i64 m, .int .i64 d]) ∧ Below w.heap.size w w' := by
  obtain ⟨n1, n2⟩ := h.range
  obtain ⟨iy1, iy2⟩ := h.inYear
  obtain ⟨y1, y2, m1, m2, d1, d2, hn⟩ := h
  have hn' : n - Cal.dby y = Cal.cum y m + d := by unfold Cal.num at hn; omega
  have HN := Lib.hid hn'
  clear hn hn'
  have cm := Cal.cum_bd y m m1 (by omega)
  have dl := Cal.dim_le y m
  go_enter Tryz.func13, Tryz.ntmps13
  go_wp2
  go_loopw [5, 6] (fun lo hi wr => ∃ a b : Int, 1 ≤ a ∧ a ≤ y ∧ y ≤ b ∧ b ≤ 9999 ∧ lo = .int .i64 a ∧ hi = .int .i64 b ∧ Below w.heap.size w wr) (fun lo hi _ => (intOf hi - intOf lo).toNat)
  case atStart => exact ⟨1, 9999, by omega, by omega, by omega, by omega, rfl, rfl, Below.refl _ _⟩
  case round =>
    obtain ⟨a, b, a1, a2, b1, b2, rfl, rfl, hb⟩ := hrel
    by_cases hlt : a < b
    · by_cases hc : Cal.dby ((a + b + 1) / 2) < n
      · have hle : (a + b + 1) / 2 ≤ y := by
          by_cases u : (a + b + 1) / 2 ≤ y
          · exact u
          · have := Cal.dby_mono (y + 1) ((a + b + 1) / 2) (by omega); omega
        go_wp2_with fail
        refine (ahead_any _ _ (by omega) (by omega)).mono ?_
        rintro e w1 ⟨rfl, c1⟩
        go_wp2
        go_roundw
        case rel => exact ⟨(a + b + 1) / 2, b, by omega, by omega, by omega, by omega, rfl, rfl, hb.trans (c1.mono hb.size)⟩
        case measure => simp [intOf]; omega
      · have hle : y < (a + b + 1) / 2 := by
          by_cases u : (a + b + 1) / 2 ≤ y
          · have := Cal.dby_mono ((a + b + 1) / 2) y (by omega); omega
          · omega
        go_wp2_with fail
        refine (ahead_any _ _ (by omega) (by omega)).mono ?_
        rintro e w1 ⟨rfl, c1⟩
        go_wp2
        go_roundw
        case rel => exact ⟨a, (a + b + 1) / 2 - 1, by omega, by omega, by omega, by omega, rfl, rfl, hb.trans (c1.mono hb.size)⟩
        case measure => simp [intOf]; omega
    · obtain rfl : a = y := by omega
      clear iy1 iy2
      have db := Cal.dby_bd a a1 (by omega)
      go_wp2_with fail
      refine (ahead_any _ _ (by omega) (by omega)).mono ?_
      rintro e w1 ⟨rfl, c1⟩
      have hb1 := hb.trans (c1.mono hb.size)
      clear hb c1
      go_wp2_with fail
      rw [HN.out]
      go_loop [3, 4] (fun k r => ∃ i : Int, 1 ≤ i ∧ i ≤ m ∧ k = .int .i64 i ∧ r = .int .i64 (Cal.cum a m + d - Cal.cum a i)) (fun k _ => (m - intOf k).toNat)
      case atStart => exact ⟨1, by omega, by omega, rfl, by rw [Cal.cum_one]; simp⟩
      case round =>
        obtain ⟨i, i1, i2, rfl, rfl⟩ := hrel
        have cb := Cal.cum_bd a i i1 (by omega)
        have ll := Cal.dim_le a i
        by_cases hlt : i < m
        · have CS := Lib.hid (Cal.cum_succ a i i1 (by omega))
          have cmo := Cal.cum_mono a i m i1 hlt (by omega)
          have hge : Cal.dim a i < Cal.cum a m + d - Cal.cum a i := by omega
          go_wp2_with (go_at_call 14; refine (lawLong_any _ _ _ (by omega) (by omega)).mono ?_; rintro e w' ⟨rfl, rfl⟩)
          go_round
          case rel => exact ⟨i + 1, by omega, by omega, rfl, by rw [CS.out]; go_num⟩
          case measure => simp [intOf]; omega
        · have hi : i = m := by omega
          subst hi
          have hlo : ¬ Cal.dim a i < Cal.cum a i + d - Cal.cum a i := by omega
          go_wp2_with (go_at_call 14; refine (lawLong_any _ _ _ (by omega) (by omega)).mono ?_; rintro e w' ⟨rfl, rfl⟩)
          go_ret3
          exact ⟨ret_three rfl rfl (by omega), hb1⟩
end Go.Proofs.YtgfekmpgnofhbaaGreatDoor
